/-
  The contract of the reference's ParseKey: the key of a text in base64, or the error.
-/
import Derived.Test.YtdnmbabofkiiiaaRefKey
import Derived.Test.YtdnmbabofkiiiaaKeyParse
import Derived.Test.YtdnmbabofkiiiaaKeyBits
namespace Go.Proofs.Ytdnmbabofkiiiaa
open Go.RowKit

theorem i64_and1 (v : Nat) (h : v < 64) : bits BinOp.and IntKind.i64 (v : Int) 1 = ((v % 2 : Nat) : Int) := by
  have : ∀ d : Fin 64, bits BinOp.and IntKind.i64 (d.val : Int) 1 = ((d.val % 2 : Nat) : Int) := by decide +kernel
  exact this ⟨v, h⟩
theorem i64_bit (v E : Nat) (h : v < 64) : bits BinOp.and IntKind.i64 ((v : Int) / 2 ^ E) 1 = ((v / 2 ^ E % 2 : Nat) : Int) := by
  have e1 : (v : Int) / 2 ^ E = ((v / 2 ^ E : Nat) : Int) := by rw [Int.natCast_ediv, Int.natCast_pow]; rfl
  have := Nat.div_le_self v (2 ^ E)
  rw [e1]
  exact i64_and1 _ (by omega)
/-- the next bit of a byte whose lower bits are 0 -/
theorem or_bit (b x : Nat) (hb : b < 256) (hx : x < 8) (h0 : b % 2 ^ (8 - x) = 0) : bits BinOp.or IntKind.u8 (b : Int) (128 / 2 ^ x) = ((UInt8.ofNat (b + 2 ^ (7 - x))).toNat : Int) := by
  have key : (128 : Int) / 2 ^ x = ((2 ^ (7 - x) : Nat) : Int) := by
    obtain rfl | rfl | rfl | rfl | rfl | rfl | rfl | rfl : x = 0 ∨ x = 1 ∨ x = 2 ∨ x = 3 ∨ x = 4 ∨ x = 5 ∨ x = 6 ∨ x = 7 := by omega
    all_goals rfl
  have hp : 2 ^ (7 - x) ≤ 2 ^ 7 := Nat.pow_le_pow_right (by omega) (by omega)
  have hlt : 2 ^ (7 - x) < 2 ^ (8 - x) := Nat.pow_lt_pow_right (by omega) (by omega)
  have hsum : b + 2 ^ (7 - x) < 256 := by
    obtain rfl | rfl | rfl | rfl | rfl | rfl | rfl | rfl : x = 0 ∨ x = 1 ∨ x = 2 ∨ x = 3 ∨ x = 4 ∨ x = 5 ∨ x = 6 ∨ x = 7 := by omega
    all_goals
      simp only [Nat.reduceSub, Nat.reducePow] at h0 ⊢
      omega
  rw [key, u8_or_nat _ _ hb (by omega), nat_join (8 - x) _ _ h0 hlt, UInt8.toNat_ofNat', Nat.mod_eq_of_lt hsum]
theorem zeros_u8 (n : Nat) : (List.replicate n (0 : UInt8)).map u8v = zeros n := zeros_map n

set_option maxRecDepth 100000 in
set_option maxHeartbeats 1000000 in
theorem refParseKey_short (S : ByteArray) (l : List UInt8) (hS : S = ⟨l.toArray⟩) (hn : l.length ≤ 1000000) (h : ¬ l.length = 44) (w : World) :
    Calls Try.prog 27 #[.string S] w (KeyRes l w) := by
  have hnone : parseK l = none := by
    unfold parseK
    rw [if_neg]
    rintro ⟨h', _⟩
    exact h h'
  have HNO := Lib.hid hnone
  have hsz : S.size = l.length := by rw [hS]; simp [ByteArray.size]
  have b1 : ¬ (S.size : Int) = 44 := by omega
  have b2 : S.size ≤ 1000000 := by omega
  have BW := Lib.hid ((Below.refl w.heap.size w).alloc (Nat.le_refl _) (.cells (zeros 32).toArray 33))
  clear hnone h hsz hS hn
  go_enter Try.func27, Try.ntmps27
  go_wp2_with (refine wpList_store_blk rfl 33 (.tmp 2) (.tmp 17) rfl w.heap.size (zeros 32) rfl rfl 33 (zeros 32) (Blk.new w 33 (zeros 32)) (by kernel_rfl) rfl (zeros_one 32) ?_; intro w9 hb9 hg9)
  refine bodyPost_ret (results_key rfl _ _ w.heap.size 33 (zeros 32) 32 5 rfl hb9 Try.underlying33 (by kernel_rfl)) rfl (.inr ⟨HNO.out, by rw [zeros_key]; rfl, below_blk BW.out hg9 (Nat.le_refl _)⟩)

set_option maxRecDepth 100000 in
set_option maxHeartbeats 1000000 in
theorem refParseKey_pad (S : ByteArray) (l : List UInt8) (hS : S = ⟨l.toArray⟩) (hn : l.length = 44) (h : ¬ l.getD 43 0 = 61) (w : World) :
    Calls Try.prog 27 #[.string S] w (KeyRes l w) := by
  have hnone : parseK l = none := by
    unfold parseK
    rw [if_neg]
    rintro ⟨_, h'⟩
    exact h h'
  have HNO := Lib.hid hnone
  obtain ⟨hsz, hat⟩ := string_at S l hS
  have hs44 : S.size = 44 := by rw [hsz, hn]
  obtain ⟨c, hc⟩ : ∃ c, l.getD 43 0 = c := ⟨_, rfl⟩
  have hI : ∀ h, S[43]'h = c := fun h => by rw [hat, hc]
  have hc61 : ¬ (c.toNat : Int) = 61 := by
    intro e
    apply h
    rw [hc]
    exact UInt8.toNat_inj.1 (by have : (61 : UInt8).toNat = 61 := rfl; omega)
  have BW := Lib.hid ((Below.refl w.heap.size w).alloc (Nat.le_refl _) (.cells (zeros 32).toArray 33))
  clear hnone h hsz hS hn hat hc
  go_enter Try.func27, Try.ntmps27
  go_wp2_with (refine wpList_store_blk rfl 33 (.tmp 2) (.tmp 17) rfl w.heap.size (zeros 32) rfl rfl 33 (zeros 32) (Blk.new w 33 (zeros 32)) (by kernel_rfl) rfl (zeros_one 32) ?_; intro w9 hb9 hg9)
  refine bodyPost_ret (results_key rfl _ _ w.heap.size 33 (zeros 32) 32 5 rfl hb9 Try.underlying33 (by kernel_rfl)) rfl (.inr ⟨HNO.out, by rw [zeros_key]; rfl, below_blk BW.out hg9 (Nat.le_refl _)⟩)

set_option maxRecDepth 100000 in
set_option maxHeartbeats 2000000 in
theorem refParseKey_main (S : ByteArray) (l : List UInt8) (hS : S = ⟨l.toArray⟩) (hn : l.length = 44) (h : l.getD 43 0 = 61) (w : World) :
    Calls Try.prog 27 #[.string S] w (KeyRes l w) := by
  obtain ⟨hsz, hat⟩ := string_at S l hS
  have hs44 : S.size = 44 := by rw [hsz, hn]
  have hI : ∀ h, S[43]'h = 61 := fun _ => by rw [hat, h]
  have HAT := Lib.hid hat
  have HPB := Lib.hid (parseK_bits l hn h)
  clear hS hn h hsz hat
  go_enter Try.func27, Try.ntmps27
  go_wp2_with fail
  generalize hW : (w.alloc _).alloc _ = W
  have b1 : Blk W w.heap.size 33 (zeros 32) := by rw [← hW]; exact (Blk.new w 33 (zeros 32)).alloc _
  have b2 : Blk W (w.heap.size + 1) 33 (zeros 32) := by
    rw [← hW]
    have := Blk.new (w.alloc (.cells (zeros 32).toArray 33)) 33 (zeros 32)
    rw [World.size_alloc] at this
    exact this
  have bw : Below w.heap.size w W := by rw [← hW]; exact ((Below.refl _ _).alloc (Nat.le_refl _) _).alloc (by simp) _
  have B1 := Lib.hid b1
  have B2 := Lib.hid b2
  have BW0 := Lib.hid bw
  clear hW b1 b2 bw hI
  go_loopw [5] (fun iv wr => ∃ i : Nat, i ≤ 43 ∧ iv = .int .i64 i ∧ Hid (∀ d, d < i → valid (l.getD d 0) = true) ∧ Hid (∀ J, 256 ≤ J → J < 6 * i → tbit l J = 0) ∧ Blk wr (w.heap.size + 1) 33 ((keyRow l (6 * i)).map u8v) ∧ Blk wr w.heap.size 33 (zeros 32) ∧ Below w.heap.size w wr) (fun iv _ => 43 - (intOf iv).toNat)
  case atStart => exact ⟨0, by omega, rfl, Lib.hid fun d hd => absurd hd (by omega), Lib.hid fun J h1 h2 => absurd h2 (by omega), by rw [Nat.mul_zero, keyRow_zero, zeros_u8]; exact B2.out, B1.out, BW0.out⟩
  case round =>
    obtain ⟨i, hi, rfl, hval, hhi, hbK, hbR, hbw⟩ := hrel
    by_cases hlt : i < 43
    · obtain ⟨c, hc⟩ : ∃ c, l.getD i 0 = c := ⟨_, rfl⟩
      have hIi : ∀ h, S[i]'h = c := fun h => by rw [HAT.out, hc]
      have q1 : (i : Int) < 44 := by omega
      have BW := Lib.hid hbw
      clear hbw
      by_cases hv : valid c = true
      · obtain ⟨v, hvv⟩ : ∃ v, (b64V c).toNat = v := ⟨_, rfl⟩
        have hv64 : v < 64 := by rw [← hvv]; exact b64V_lt c
        have HVA := Lib.hid (fun w' : World => value_any c v (by rw [if_pos hv, hvv]) w')
        have HTB := Lib.hid (show ∀ m, m < 6 → v / 2 ^ (5 - m) % 2 = tbit l (6 * i + m) from fun m hm => by
          unfold tbit
          rw [show (6 * i + m) / 6 = i from by omega, show (6 * i + m) % 6 = m from by omega, hc, hvv])
        have HVC := Lib.hid (show ∀ d, d < i + 1 → valid (l.getD d 0) = true from fun d hd => by
          rcases Nat.lt_or_ge d i with h | h
          · exact hval.out d h
          · obtain rfl : d = i := by omega
            rw [hc]; exact hv)
        clear hc hv hvv
        go_wp2_with fail
        refine (HVA.out _).mono ?_
        rintro e w2 ⟨rfl, rfl⟩
        go_wp2_with fail
        go_loopw [7] (fun jv wx => ∃ m : Nat, m ≤ 6 ∧ jv = .int .i64 m ∧ Hid (∀ J, 256 ≤ J → J < 6 * i + m → tbit l J = 0) ∧ Blk wx (w.heap.size + 1) 33 ((keyRow l (6 * i + m)).map u8v) ∧ Blk wx w.heap.size 33 (zeros 32) ∧ Below w.heap.size w wx) (fun jv _ => 6 - (intOf jv).toNat)
        case atStart => exact ⟨0, by omega, rfl, hhi, hbK, hbR, BW.out⟩
        case round =>
          clear hhi hbK hbR BW
          obtain ⟨m, hm, rfl, hhi, hbK, hbR, hbw⟩ := hrel
          have BW := Lib.hid hbw
          clear hbw
          by_cases hm6 : m < 6
          · have hbit := i64_bit v (5 - m) hv64
            obtain ⟨y, hy⟩ : ∃ y, v / 2 ^ (5 - m) % 2 = y := ⟨_, rfl⟩
            have hyt : tbit l (6 * i + m) = y := by rw [← HTB.out m hm6, hy]
            rw [hy] at hbit
            have hy2 : y < 2 := by rw [← hy]; exact Nat.mod_lt _ (by omega)
            have HYT := Lib.hid hyt
            clear hy hyt
            obtain rfl | rfl : y = 0 ∨ y = 1 := by omega
            · have hbK' := hbK
              rw [← keyRow_skip l (6 * i + m) HYT.out] at hbK'
              have HBK := Lib.hid hbK'
              clear hbK' hbK
              go_wp2_with fail
              go_roundw
              case rel => exact ⟨m + 1, by omega, by go_num, Lib.hid fun J h1 h2 => by
                rcases Nat.lt_or_ge J (6 * i + m) with h | h
                · exact hhi.out J h1 h
                · obtain rfl : J = 6 * i + m := by omega
                  exact HYT.out, HBK.out, hbR, BW.out⟩
              case measure => simp [intOf]; omega
            · by_cases h256 : 6 * i + m < 256
              · have hM : (6 * i + m) / 8 < 32 := by omega
                obtain ⟨e1, e2⟩ := kb_step l (6 * i + m)
                have hkb := kb_lt l (6 * i + m) ((6 * i + m) / 8)
                have hcell : wr.cell? ⟨w.heap.size + 1, (6 * i + m) / 8, none⟩ = some (.int .u8 (kb l (6 * i + m) ((6 * i + m) / 8) : Nat)) := by
                  rw [hbK.cell, map_u8v_getElem? _ _ (by rw [keyRow_length]; exact hM), keyRow_get, UInt8.toNat_ofNat', Nat.mod_eq_of_lt hkb]
                have hfz := hbK.frozen ((6 * i + m) / 8)
                obtain ⟨b, hb⟩ : ∃ b, kb l (6 * i + m) ((6 * i + m) / 8) = b := ⟨_, rfl⟩
                have hset := keyRow_set l (6 * i + m) HYT.out hM
                rw [hb] at hcell e2 hkb hset
                have hbor := or_bit b ((6 * i + m) % 8) hkb (by omega) e2
                obtain ⟨z, hz⟩ : ∃ z, UInt8.ofNat (b + 2 ^ (7 - (6 * i + m) % 8)) = z := ⟨_, rfl⟩
                rw [hz] at hbor hset
                have hst := hbK.set_ ((6 * i + m) / 8) (u8v z)
                rw [← List.map_set, hset] at hst
                have HST := Lib.hid hst
                have HBR := Lib.hid hbR
                clear e1 e2 hb hz hset hst hbR
                go_wp2_with fail
                go_region
                all_goals
                  go_wp2
                  go_roundw
                  case rel => exact ⟨m + 1, by omega, by go_num, Lib.hid fun J h1 h2 => by
                    rcases Nat.lt_or_ge J (6 * i + m) with h | h
                    · exact hhi.out J h1 h
                    · exact absurd h256 (by omega), HST.out.drew, (HBR.out.far (p := ⟨w.heap.size + 1, (6 * i + m) / 8, none⟩) (by simp) _).drew, (BW.out.setCell (p := ⟨w.heap.size + 1, (6 * i + m) / 8, none⟩) (by simp) _).drew⟩
                  case measure => simp [intOf]; omega
              · have hnone : parseK l = none := by
                  refine HPB.out.2 (.inr ?_)
                  have h := HYT.out
                  rcases (by omega : 6 * i + m = 256 ∨ 6 * i + m = 257) with e | e
                  · rw [e] at h
                    exact .inl (by rw [h]; decide)
                  · rw [e] at h
                    exact .inr (by rw [h]; decide)
                have HNO := Lib.hid hnone
                have s1 : (256 : Int) ≤ 6 * (i : Int) + (m : Int) := by omega
                clear hnone
                go_wp2_with (refine wpList_store_blk rfl 33 (.tmp 2) (.tmp 45) rfl w.heap.size (zeros 32) rfl rfl 33 (zeros 32) hbR (by kernel_rfl) rfl (zeros_one 32) ?_; intro w9 hb9 hg9)
                refine bodyPost_ret (results_key rfl _ _ w.heap.size 33 (zeros 32) 32 5 rfl hb9 Try.underlying33 (by kernel_rfl)) rfl (.inr ⟨HNO.out, by rw [zeros_key]; rfl, below_blk BW.out hg9 (Nat.le_refl _)⟩)
          · obtain rfl : m = 6 := by omega
            have HH := Lib.hid (show ∀ J, 256 ≤ J → J < 6 * (i + 1) → tbit l J = 0 from fun J h1 h2 => hhi.out J h1 (by omega))
            rw [show 6 * i + 6 = 6 * (i + 1) from by omega] at hbK
            go_wp2_with fail
            go_roundw
            case rel => exact ⟨i + 1, by omega, by go_num, HVC, HH, hbK, hbR, BW.out⟩
            case measure => simp [intOf]; omega
      · have hv' : valid c = false := by simpa using hv
        have hnone : parseK l = none := HPB.out.2 (.inl ⟨i, hlt, by rw [hc]; exact hv'⟩)
        have HNO := Lib.hid hnone
        have HVA := Lib.hid (fun w' : World => value_any c 64 (by rw [if_neg hv]) w')
        clear hc hv hv' hnone
        go_wp2_with fail
        refine (HVA.out _).mono ?_
        rintro e w2 ⟨rfl, rfl⟩
        go_wp2_with (refine wpList_store_blk rfl 33 (.tmp 2) (.tmp 28) rfl w.heap.size (zeros 32) rfl rfl 33 (zeros 32) hbR (by kernel_rfl) rfl (zeros_one 32) ?_; intro w9 hb9 hg9)
        refine bodyPost_ret (results_key rfl _ _ w.heap.size 33 (zeros 32) 32 5 rfl hb9 Try.underlying33 (by kernel_rfl)) rfl (.inr ⟨HNO.out, by rw [zeros_key]; rfl, below_blk BW.out hg9 (Nat.le_refl _)⟩)
    · obtain rfl : i = 43 := by omega
      have t0 := hhi.out 256 (by omega) (by omega)
      have t1 := hhi.out 257 (by omega) (by omega)
      have hsome := HPB.out.1 ⟨hval.out, t0, t1⟩
      have HSO := Lib.hid hsome
      have e258 : keyRow l (6 * 43) = keyRow l 256 := by
        have h1 := keyRow_skip l 257 t1
        have h2 := keyRow_skip l 256 t0
        exact h1.trans h2
      rw [e258] at hbK
      have hql := keyRow_length l 256
      obtain ⟨q, hq⟩ : ∃ q, keyRow l 256 = q := ⟨_, rfl⟩
      rw [hq] at hbK hql HSO
      have HQ := Lib.hid hql
      have BW := Lib.hid hbw
      clear t0 t1 hsome e258 hql hq hbw
      go_wp2_with (first | (refine wpList_load_blk rfl 33 (.tmp 4) rfl (w.heap.size + 1) rfl 33 (q.map u8v) hbK 32 5 Try.underlying33 (by rw [List.length_map, HQ.out]; exact key_size) ?_) | (refine wpList_store_blk rfl 33 (.tmp 2) (.tmp 55) rfl w.heap.size (q.map u8v) rfl rfl 33 (zeros 32) hbR (by rw [List.length_map, HQ.out]; exact key_size) (by simp [HQ.out, zeros]) (u8v_one _) ?_; intro w9 hb9 hg9))
      refine bodyPost_ret (results_key rfl _ _ w.heap.size 33 (q.map u8v) 32 5 rfl hb9 Try.underlying33 (by rw [List.length_map, HQ.out]; exact key_size)) rfl (.inl ⟨q, HSO.out, rfl, below_blk BW.out hg9 (Nat.le_refl _)⟩)

theorem refParseKey_any (S : ByteArray) (l : List UInt8) (hS : S = ⟨l.toArray⟩) (hn : l.length ≤ 1000000) (w : World) :
    Calls Try.prog 27 #[.string S] w (KeyRes l w) := by
  by_cases h1 : l.length = 44
  · by_cases h2 : l.getD 43 0 = 61
    · exact refParseKey_main S l hS h1 h2 w
    · exact refParseKey_pad S l hS h1 h2 w
  · exact refParseKey_short S l hS hn h1 w
end Go.Proofs.Ytdnmbabofkiiiaa
