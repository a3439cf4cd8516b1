/-
  The mathematics of XChaCha20-Poly1305: the derived key, and sealing with a long nonce. What is asked of xchacha.Derive, Seal and Open. The sanity check of layer 5's laws: the chapter's example holds. What a walk keeps of the memory that it has made: a list of entries, the newest first, each of which speaks of blocks of its own. The contract of burrowcase.Cut (at most the first n bytes). A slice of bytes built of a long row of constants. What is asked of aead.Seal and Open. XchachaReturns returns true for every key, nonce and data, and changes nothing that was there: the walk, over what is asked of xchacha.Derive, Seal and Open. The contract of the reference's quarter round. The contract of the reference's Core: ten double rounds of the words. The contracts of the reference's numbers: burrowref01.Little, ReadLittle. The contract of codec.Little: for a size from 1 to 8 it returns a new slice with the size lowest bytes of n, the least significant one first; for any other size nothing. No statement is proved here.
-/
import Derived.Deep.DeepCutAuto
import Derived.Outline
import Derived.Lib.SlBytesConst
import Derived.Maps.AppendAt
import Derived.Test.YtkbefhmgcodpaaaXchachaSealsB2
namespace Go.Proofs.Ytkbefhmgcodpaaa
open Go.RowKit

/-- the words that are mixed -/
def xcW (k inn : List UInt8) : List UInt32 := fillW (fillW baseW 4 (wordL k) 8) 12 (wordL inn) 4
def xcoreW (k inn : List UInt8) : List UInt32 := coreW 10 (xcW k inn)
/-- HChaCha20 -/
def deriveL (k inn : List UInt8) : List UInt8 := ((xcoreW k inn).take 4 ++ (xcoreW k inn).drop 12).flatMap fun x => littleL x.toNat 4
theorem xcW_length (k inn : List UInt8) : (xcW k inn).length = 16 := by rw [xcW, fillW_length, fillW_length]; rfl
theorem xcoreW_length (k inn : List UInt8) : (xcoreW k inn).length = 16 := by rw [xcoreW, coreW_length, xcW_length]
theorem deriveL_length (k inn : List UInt8) : (deriveL k inn).length = 32 := by
  rw [deriveL, flat_four, List.length_append, List.length_take, List.length_drop, xcoreW_length]; rfl
def longN (n : List UInt8) : List UInt8 := List.replicate 4 0 ++ n.drop 16
theorem longN_length (n : List UInt8) (h : n.length = 24) : (longN n).length = 12 := by rw [longN, List.length_append, List.length_replicate, List.length_drop, h]
def longK (k n : List UInt8) : List UInt8 := deriveL k (n.take 16)
theorem longK_length (k n : List UInt8) : (longK k n).length = 32 := deriveL_length _ _
def xsealL (k n p more : List UInt8) : List UInt8 := sealL (longK k n) (longN n) p more
def xopenL (k n s more : List UInt8) : List UInt8 × Nat := openL (longK k n) (longN n) s more
theorem xsealL_length (k n p more : List UInt8) : (xsealL k n p more).length = p.length + 16 := sealL_length _ _ _ _
theorem xopen_seal (k n p more : List UInt8) : xopenL k n (xsealL k n p more) more = (p, 0) := open_seal _ _ _ _
def xcK : List UInt8 := (List.range 32).map UInt8.ofNat
def xcIn : List UInt8 := [0, 0, 0, 9, 0, 0, 0, 74, 0, 0, 0, 0, 49, 65, 89, 39]
def xcOut : List UInt8 := [130, 65, 59, 66, 39, 178, 123, 254, 211, 14, 66, 80, 138, 135, 125, 115, 160, 249, 228, 213, 138, 116, 168, 83, 193, 46, 196, 19, 38, 211, 236, 220]
theorem xc_example : deriveL xcK xcIn = xcOut := by decide +kernel

theorem xc_cellsL (l : List UInt8) (h : l.length = 24) : (Try.prog.info? 26).map (·.size) = some (l.map u8v).length := by
  rw [List.length_map, h]; kernel_rfl
theorem xc_cells16 (l : List UInt8) (h : l.length = 16) : (Try.prog.info? 24).map (·.size) = some (l.map u8v).length := by
  rw [List.length_map, h]; kernel_rfl
/-- the derived key, piece by piece, as a loop over four words lays it -/
def derRow (W : List UInt32) : Nat → List UInt8
  | 0 => List.replicate 32 0
  | j + 1 => putL (putL (derRow W j) (4 * j) (littleL (wd W j).toNat 4)) (16 + 4 * j) (littleL (wd W (12 + j)).toNat 4)
theorem derRow_length (W : List UInt32) : ∀ j, j ≤ 4 → (derRow W j).length = 32
  | 0, _ => rfl
  | j + 1, h => by
    have := derRow_length W j (by omega)
    rw [derRow, putL_length _ _ _ (by rw [putL_length _ _ _ (by rw [littleL_length]; omega), littleL_length]; omega), putL_length _ _ _ (by rw [littleL_length]; omega), this]
theorem der_four (b0 b1 b2 b3 c0 c1 c2 c3 : List UInt8) (hb0 : b0.length = 4) (hb1 : b1.length = 4) (hb2 : b2.length = 4) (hb3 : b3.length = 4) (hc0 : c0.length = 4) (hc1 : c1.length = 4) (hc2 : c2.length = 4) (hc3 : c3.length = 4) :
    putL (putL (putL (putL (putL (putL (putL (putL (List.replicate 32 0) 0 b0) 16 c0) 4 b1) 20 c1) 8 b2) 24 c2) 12 b3) 28 c3 = b0 ++ (b1 ++ (b2 ++ (b3 ++ (c0 ++ (c1 ++ (c2 ++ c3)))))) := by
  match b0, hb0, b1, hb1, b2, hb2, b3, hb3, c0, hc0, c1, hc1, c2, hc2, c3, hc3 with
  | [_, _, _, _], _, [_, _, _, _], _, [_, _, _, _], _, [_, _, _, _], _, [_, _, _, _], _, [_, _, _, _], _, [_, _, _, _], _, [_, _, _, _], _ => simp [putL]
theorem derRow_end (W : List UInt32) (h : W.length = 16) : derRow W 4 = (W.take 4 ++ W.drop 12).flatMap fun x => littleL x.toNat 4 := by
  match W, h with
  | [a0, a1, a2, a3, a4, a5, a6, a7, a8, a9, a10, a11, a12, a13, a14, a15], _ =>
    have h4 := der_four (littleL a0.toNat 4) (littleL a1.toNat 4) (littleL a2.toNat 4) (littleL a3.toNat 4) (littleL a12.toNat 4) (littleL a13.toNat 4) (littleL a14.toNat 4) (littleL a15.toNat 4) (littleL_length _ _) (littleL_length _ _) (littleL_length _ _) (littleL_length _ _) (littleL_length _ _) (littleL_length _ _) (littleL_length _ _) (littleL_length _ _)
    simpa [derRow, wd] using h4
end Go.Proofs.Ytkbefhmgcodpaaa
namespace Go.Proofs.Ytkbefhmgcodpaaa
open Go.RowKit

def DeriveC : Prop := ∀ (k inn : List UInt8), k.length = 32 → inn.length = 16 → ∀ w : World,
  Calls Try.prog 7 #[.agg (k.map u8v).toArray, .agg (inn.map u8v).toArray] w fun e w' => e = .returned (.agg ((deriveL k inn).map u8v).toArray) ∧ Below w.heap.size w w'
def XSealC : Prop := ∀ (k n : List UInt8), k.length = 32 → n.length = 24 → ∀ (Ap Am : Option Addr) (np cp nm cm : Nat) (pl more : List UInt8), np ≤ cp → cp ≤ maxLen → nm ≤ cm → cm ≤ maxLen → np ≤ 100000 → nm ≤ 100000 → ∀ w : World, Rd w w.heap.size Ap np pl → Rd w w.heap.size Am nm more →
  Calls Try.prog 9 #[.agg (k.map u8v).toArray, .agg (n.map u8v).toArray, .slice Ap np cp, .slice Am nm cm] w fun e w' => ∃ A c', e = .returned (.slice A (np + 16) c') ∧ w'.ownsRow w.heap.size 5 1 (.slice A (np + 16) c') (np + 16) ((xsealL k n pl more).map u8v) ∧ Below w.heap.size w w'
def XOpenC : Prop := ∀ (k n : List UInt8), k.length = 32 → n.length = 24 → ∀ (As Am : Option Addr) (ns cs nm cm : Nat) (sl more : List UInt8), ns ≤ cs → cs ≤ maxLen → nm ≤ cm → cm ≤ maxLen → ns ≤ 100000 → nm ≤ 100000 → ∀ w : World, Rd w w.heap.size As ns sl → Rd w w.heap.size Am nm more →
  Calls Try.prog 10 #[.agg (k.map u8v).toArray, .agg (n.map u8v).toArray, .slice As ns cs, .slice Am nm cm] w fun e w' => ∃ A c', e = .returned (.tuple #[.slice A (xopenL k n sl more).1.length c', .int .i64 ((xopenL k n sl more).2 : Int)]) ∧ Rd w' w'.heap.size A (xopenL k n sl more).1.length (xopenL k n sl more).1 ∧ (xopenL k n sl more).1.length ≤ c' ∧ c' ≤ maxLen ∧ Below w.heap.size w w'
end Go.Proofs.Ytkbefhmgcodpaaa
namespace Go.Proofs.Ytkbefhmgcodpaaa
open Go.RowKit

def xcRow (j : Nat) : List UInt8 := xcK.take j ++ List.replicate (32 - j) 0
theorem xcK_length : xcK.length = 32 := by simp [xcK]
theorem xcRow_length (j : Nat) (h : j ≤ 32) : (xcRow j).length = 32 := by
  rw [xcRow, List.length_append, List.length_take, List.length_replicate, xcK_length]; omega
theorem xcRow_set (j : Nat) (h : j < 32) : (xcRow j).set j (UInt8.ofNat j) = xcRow (j + 1) := by
  have hk := xcK_length
  unfold xcRow
  rw [List.set_append_right _ _ (by rw [List.length_take]; omega), List.length_take, hk, Nat.min_eq_left (by omega), Nat.sub_self, show 32 - j = (32 - (j + 1)) + 1 by omega, List.replicate_succ, List.set_cons_zero, List.take_succ_eq_append_getElem (by omega), List.append_assoc]
  simp [xcK]
theorem xcRow_end : xcRow 32 = xcK := by rw [xcRow, List.take_of_length_le (by rw [xcK_length]; exact Nat.le_refl _)]; simp
theorem xc_u8 (j : Nat) (h : j < 32) : u8v (UInt8.ofNat j) = .int .u8 (j : Int) := by
  unfold u8v
  rw [UInt8.toNat_ofNat', Nat.mod_eq_of_lt (by omega)]

set_option maxRecDepth 100000 in
set_option maxHeartbeats 8000000 in
theorem xc_begun_any (HD : DeriveC) (w : World) : Calls Try.prog 12 #[] w fun e w' => e = .returned (.bool true) ∧ Below w.heap.size w w' := by
  obtain ⟨i0, hi, hz0, hz1, hz2⟩ := info_parts Try.info5
  have hb0 := Blk.new w 23 (aeZ 32)
  have hl0 : Below w.heap.size w (w.alloc (.cells (aeZ 32).toArray 23)) := (Below.refl _ _).alloc (Nat.le_refl _) _
  rw [aeZ32] at hb0 hl0
  go_enter Try.func12, Try.ntmps12
  go_upto_region 2 with fail
  generalize w.alloc (.cells #[.int .u8 0, .int .u8 0, .int .u8 0, .int .u8 0, .int .u8 0, .int .u8 0, .int .u8 0, .int .u8 0, .int .u8 0, .int .u8 0, .int .u8 0, .int .u8 0, .int .u8 0, .int .u8 0, .int .u8 0, .int .u8 0, .int .u8 0, .int .u8 0, .int .u8 0, .int .u8 0, .int .u8 0, .int .u8 0, .int .u8 0, .int .u8 0, .int .u8 0, .int .u8 0, .int .u8 0, .int .u8 0, .int .u8 0, .int .u8 0, .int .u8 0, .int .u8 0] 23) = w1 at hb0 hl0 ⊢
  have H1 := Lib.hid (And.intro hb0 hl0)
  clear hb0 hl0
  go_wp2_with fail
  go_loopw [3, 2] (fun v _ wr => ∃ j : Nat, j ≤ 32 ∧ v = .int .i64 (j : Int) ∧ Blk wr w.heap.size 23 ((xcRow j).map u8v) ∧ Below w.heap.size w wr) (fun v _ _ => 32 - (intOf v).toNat)
  case atStart => exact ⟨0, by omega, rfl, H1.out.1, H1.out.2⟩
  case round =>
    clear H1
    obtain ⟨j, hj, rfl, hrow, hbel⟩ := hrel
    by_cases hlt : j < 32
    · have d32 : decide ((j : Int) < 32) = true := by simp; omega
      have fx : ∃ u, wr.cell? ⟨w.heap.size, j, none⟩ = some u := by
        rw [hrow.cell j]
        exact ⟨_, List.getElem?_eq_getElem (by rw [List.length_map, xcRow_length j hj]; omega)⟩
      obtain ⟨u, fx⟩ := fx
      have zx := hrow.frozen j
      have hset := hrow.set_ j (u8v (UInt8.ofNat j))
      rw [← List.map_set, xcRow_set j hlt, xc_u8 j hlt] at hset
      have hw2 : IntKind.u8.wrap (j : Int) = (j : Int) := by rw [IntKind.wrap_u8]; omega
      have HN := Lib.hid (And.intro hset (hbel.setCell (p := ⟨w.heap.size, j, none⟩) (Nat.le_refl _) (.int .u8 (j : Int))))
      clear hrow hbel hset
      go_wp2_with fail
      refine ⟨⟨j + 1, by omega, by go_num, HN.out.1, HN.out.2⟩, ?_⟩
      simp [intOf]; omega
    · obtain rfl : j = 32 := by omega
      rw [xcRow_end] at hrow
      have H2 := Lib.hid (And.intro hrow hbel)
      clear hrow hbel
      rw [show ((32 : Nat) : Int) = 32 from rfl]
      have SC := HD xcK xcIn xcK_length rfl
      rw [xc_example] at SC
      obtain ⟨ak, hak⟩ : ∃ a, (xcK.map u8v).toArray = a := ⟨_, rfl⟩
      rw [hak] at SC
      rw [show (xcIn.map u8v).toArray = #[.int .u8 0, .int .u8 0, .int .u8 0, .int .u8 9, .int .u8 0, .int .u8 0, .int .u8 0, .int .u8 74, .int .u8 0, .int .u8 0, .int .u8 0, .int .u8 0, .int .u8 49, .int .u8 65, .int .u8 89, .int .u8 39] from rfl, show (xcOut.map u8v).toArray = #[.int .u8 130, .int .u8 65, .int .u8 59, .int .u8 66, .int .u8 39, .int .u8 178, .int .u8 123, .int .u8 254, .int .u8 211, .int .u8 14, .int .u8 66, .int .u8 80, .int .u8 138, .int .u8 135, .int .u8 125, .int .u8 115, .int .u8 160, .int .u8 249, .int .u8 228, .int .u8 213, .int .u8 138, .int .u8 116, .int .u8 168, .int .u8 83, .int .u8 193, .int .u8 46, .int .u8 196, .int .u8 19, .int .u8 38, .int .u8 211, .int .u8 236, .int .u8 220] from rfl] at SC
      have HSC := Lib.hid SC
      have HA := Lib.hid hak
      have ex := fun w' : World => run_key_eq (P := Try.prog) 23 5 32 Try.underlying23 Try.underlying5 i0 hi hz1 xcOut xcOut rfl rfl w'
      rw [show (xcOut == xcOut) = true from rfl, show (xcOut.map u8v).toArray = #[.int .u8 130, .int .u8 65, .int .u8 59, .int .u8 66, .int .u8 39, .int .u8 178, .int .u8 123, .int .u8 254, .int .u8 211, .int .u8 14, .int .u8 66, .int .u8 80, .int .u8 138, .int .u8 135, .int .u8 125, .int .u8 115, .int .u8 160, .int .u8 249, .int .u8 228, .int .u8 213, .int .u8 138, .int .u8 116, .int .u8 168, .int .u8 83, .int .u8 193, .int .u8 46, .int .u8 196, .int .u8 19, .int .u8 38, .int .u8 211, .int .u8 236, .int .u8 220] from rfl] at ex
      have HEX := Lib.hid ex
      clear SC hak ex
      go_wp2_with (refine wpList_load_blk rfl 23 (.tmp 1) rfl w.heap.size rfl 23 (xcK.map u8v) H2.out.1 32 5 Try.underlying23 (cells32 xcK xcK_length) ?_; rw [HA.out])
      refine (HSC.out _).mono ?_
      rintro e w2 ⟨rfl, hb⟩
      have HF := Lib.hid (H2.out.2.trans (hb.mono H2.out.2.size))
      have ex := HEX.out
      clear hb H2 HSC HEX
      go_wp2_with fail
      go_ret
      exact ⟨rfl, HF.out⟩
end Go.Proofs.Ytkbefhmgcodpaaa
namespace Go.Proofs.Ytkbefhmgcodpaaa
open Go.RowKit

/-- a fact that speaks of the blocks from lo to hi only -/
structure Ent where
  lo : Nat
  hi : Nat
  P : World → Prop
  loc : ∀ W W' : World, (∀ k, lo ≤ k → k < hi → W'.heap[k]? = W.heap[k]?) → P W → P W'
/-- a block -/
def blkE (g : Nat) (t : TypeId) (cs : List Value) : Ent := ⟨g, g + 1, fun W => Blk W g t cs, fun W W' h hp => by
  unfold Blk at *
  rw [h g (Nat.le_refl _) (by omega)]
  exact hp⟩
/-- bytes that lie somewhere from lo to hi -/
def RdIn (lo hi : Nat) (A : Option Addr) (n : Nat) (l : List UInt8) (W : World) : Prop :=
  l.length = n ∧ (0 < n → ∃ b off, A = some ⟨b, off, none⟩ ∧ lo ≤ b ∧ b < hi ∧ ∀ j (h : j < l.length), W.cell? ⟨b, off + j, none⟩ = some (.int .u8 (l[j].toNat : Int)))
def rdE (lo hi : Nat) (A : Option Addr) (n : Nat) (l : List UInt8) : Ent := ⟨lo, hi, RdIn lo hi A n l, fun W W' h hp => ⟨hp.1, fun hn => by
  obtain ⟨b, off, e, h1, h2, hc⟩ := hp.2 hn
  exact ⟨b, off, e, h1, h2, fun j hj => (World.cell?_of_block (w := W) (h b h1 h2)).trans (hc j hj)⟩⟩⟩
theorem RdIn.rd {lo hi : Nat} {A : Option Addr} {n : Nat} {l : List UInt8} {W : World} (h : RdIn lo hi A n l W) : Rd W hi A n l :=
  ⟨h.1, fun hn => by
    obtain ⟨b, off, e, _, h2, hc⟩ := h.2 hn
    exact ⟨b, off, e, h2, hc⟩⟩
/-- a row of bytes of the call's own -/
def ownE (lo hi : Nat) (v : Value) (n : Nat) (xs : List Value) : Ent := ⟨lo, hi, fun W => W.ownsRow lo 5 1 v n xs ∧ ∀ k, v.ownBlock = some k → k < hi, fun W W' h hp => ⟨⟨hp.1.1, by
  rcases hp.1.2 with h1 | ⟨g, cap, cur, hv, hbg, hg, hr⟩
  · exact .inl h1
  · exact .inr ⟨g, cap, cur, hv, hbg, (h g hbg (hp.2 g (by rw [hv]; rfl))).trans hg, hr⟩⟩, hp.2⟩⟩

/-- the entries, each above the one behind it in the list -/
def MemE (b : Nat) : List Ent → Nat → World → Prop
  | [], top, _ => b ≤ top
  | e :: r, top, W => e.hi ≤ top ∧ e.lo ≤ e.hi ∧ e.P W ∧ MemE b r e.lo W
def Mem (w0 : World) (E : List Ent) (W : World) : Prop := MemE w0.heap.size E W.heap.size W ∧ Below w0.heap.size w0 W
theorem MemE.base {b : Nat} : ∀ {E : List Ent} {top : Nat} {W : World}, MemE b E top W → b ≤ top
  | [], _, _, h => h
  | _ :: _, _, _, h => Nat.le_trans (MemE.base h.2.2.2) (Nat.le_trans h.2.1 h.1)
theorem MemE.keep {b : Nat} : ∀ {E : List Ent} {top top' : Nat} {W W' : World}, MemE b E top W → top ≤ top' → (∀ k, b ≤ k → k < top → W'.heap[k]? = W.heap[k]?) → MemE b E top' W'
  | [], _, _, _, _, h, ht, _ => Nat.le_trans h ht
  | e :: _, _, _, W, W', h, ht, hk => ⟨Nat.le_trans h.1 ht, h.2.1, e.loc W W' (fun k h1 h2 => hk k (Nat.le_trans (MemE.base h.2.2.2) h1) (Nat.lt_of_lt_of_le h2 h.1)) h.2.2.1, MemE.keep h.2.2.2 (Nat.le_refl _) (fun k h1 h2 => hk k h1 (Nat.lt_of_lt_of_le h2 (Nat.le_trans h.2.1 h.1)))⟩
theorem MemE.get {b : Nat} : ∀ {E : List Ent} {top : Nat} {W : World}, MemE b E top W → ∀ (i : Nat) (e : Ent), E[i]? = some e → e.P W
  | [], _, _, _, i, _, he => by simp at he
  | x :: r, _, _, h, 0, e, he => by
    have : x = e := by simpa using he
    exact this ▸ h.2.2.1
  | x :: r, _, _, h, i + 1, e, he => MemE.get h.2.2.2 i e (by simpa using he)
theorem MemE.erase {b : Nat} : ∀ {E : List Ent} {top : Nat} {W : World}, MemE b E top W → ∀ i : Nat, MemE b (E.eraseIdx i) top W
  | [], _, _, h, _ => h
  | _ :: _, _, _, h, 0 => MemE.keep h.2.2.2 (Nat.le_trans h.2.1 h.1) (fun _ _ _ => rfl)
  | _ :: _, _, _, h, i + 1 => ⟨h.1, h.2.1, h.2.2.1, MemE.erase h.2.2.2 i⟩
/-- a place of the list is written anew, within its own blocks -/
theorem MemE.put {b : Nat} : ∀ {E : List Ent} {top : Nat} {W W' : World}, MemE b E top W → ∀ (i : Nat) (e e' : Ent), E[i]? = some e → e'.lo = e.lo → e'.hi = e.hi → (∀ k, k < top → ¬(e.lo ≤ k ∧ k < e.hi) → W'.heap[k]? = W.heap[k]?) → e'.P W' → MemE b (E.set i e') top W'
  | [], _, _, _, _, i, _, _, he, _, _, _, _ => by simp at he
  | x :: r, top, W, W', h, 0, e, e', he, h1, h2, hk, hp => by
    have hx : x = e := by simpa using he
    subst hx
    refine ⟨by rw [h2]; exact h.1, by rw [h1, h2]; exact h.2.1, hp, ?_⟩
    rw [h1]
    exact MemE.keep h.2.2.2 (Nat.le_refl _) (fun k _ hlt => hk k (Nat.lt_of_lt_of_le hlt (Nat.le_trans h.2.1 h.1)) (fun hh => by omega))
  | x :: r, top, W, W', h, i + 1, e, e', he, h1, h2, hk, hp => by
    have he' : r[i]? = some e := by simpa using he
    have hin : e.hi ≤ x.lo := MemE.under h.2.2.2 i e he'
    exact ⟨h.1, h.2.1, x.loc W W' (fun k h3 h4 => hk k (Nat.lt_of_lt_of_le h4 h.1) (fun hh => by omega)) h.2.2.1, MemE.put h.2.2.2 i e e' he' h1 h2 (fun k hlt => hk k (Nat.lt_of_lt_of_le hlt (Nat.le_trans h.2.1 h.1))) hp⟩
where
  MemE.under {b : Nat} : ∀ {E : List Ent} {top : Nat} {W : World}, MemE b E top W → ∀ (i : Nat) (e : Ent), E[i]? = some e → e.hi ≤ top
  | [], _, _, _, i, _, he => by simp at he
  | x :: r, _, _, h, 0, e, he => by
    have : x = e := by simpa using he
    exact this ▸ h.1
  | x :: r, _, _, h, i + 1, e, he => Nat.le_trans (MemE.under h.2.2.2 i e (by simpa using he)) (Nat.le_trans h.2.1 h.1)
theorem MemE.low {b : Nat} : ∀ {E : List Ent} {top : Nat} {W : World}, MemE b E top W → ∀ (i : Nat) (e : Ent), E[i]? = some e → b ≤ e.lo
  | [], _, _, _, i, _, he => by simp at he
  | x :: r, _, _, h, 0, e, he => by
    have : x = e := by simpa using he
    exact this ▸ MemE.base h.2.2.2
  | x :: r, _, _, h, i + 1, e, he => MemE.low h.2.2.2 i e (by simpa using he)

section
variable {w0 W W' : World} {E : List Ent}
theorem Mem.nil (w0 : World) : Mem w0 [] w0 := ⟨Nat.le_refl _, Below.refl _ _⟩
theorem Mem.bel (h : Mem w0 E W) : Below w0.heap.size w0 W := h.2
theorem Mem.size (h : Mem w0 E W) : w0.heap.size ≤ W.heap.size := h.2.size
theorem Mem.get (h : Mem w0 E W) (i : Nat) {e : Ent} (he : E[i]? = some e) : e.P W := h.1.get i e he
theorem Mem.blk (h : Mem w0 E W) (i : Nat) {g : Nat} {t : TypeId} {cs : List Value} (he : E[i]? = some (blkE g t cs)) : Blk W g t cs := h.1.get i _ he
theorem Mem.rd (h : Mem w0 E W) (i : Nat) {lo hi : Nat} {A : Option Addr} {n : Nat} {l : List UInt8} (he : E[i]? = some (rdE lo hi A n l)) : Rd W W.heap.size A n l :=
  (RdIn.rd (h.1.get i _ he)).mono (MemE.put.MemE.under h.1 i _ he)
theorem Mem.erase (h : Mem w0 E W) (i : Nat) : Mem w0 (E.eraseIdx i) W := ⟨h.1.erase i, h.2⟩
theorem Mem.below (h : Mem w0 E W) (hb : Below W.heap.size W W') : Mem w0 E W' := ⟨h.1.keep hb.size (fun k _ hk => hb.block k hk), h.2.trans (hb.mono h.2.size)⟩
theorem Mem.drew (h : Mem w0 E W) : Mem w0 E W.drew := h.below ((Below.refl _ _).drew)
theorem Mem.alloc (h : Mem w0 E W) {g : Nat} (hg : g = W.heap.size) (t : TypeId) (arr : Array Value) (cs : List Value) (ha : arr = cs.toArray) : Mem w0 (blkE g t cs :: E) (W.alloc (.cells arr t)) := by
  subst hg ha
  have hb : Below W.heap.size W (W.alloc (.cells cs.toArray t)) := (Below.refl _ _).alloc (Nat.le_refl _) _
  refine ⟨⟨?_, Nat.le_succ _, Blk.new W t cs, h.1.keep (Nat.le_refl _) (fun k _ hk => hb.block k hk)⟩, h.2.trans (hb.mono h.2.size)⟩
  show W.heap.size + 1 ≤ _
  simp
/-- what a call returns -/
theorem Mem.call (h : Mem w0 E W) (hb : Below W.heap.size W W') (e : Ent) (hl : e.lo = W.heap.size) (hh : e.hi = W'.heap.size) (hp : e.P W') : Mem w0 (e :: E) W' :=
  ⟨⟨by rw [hh]; exact Nat.le_refl _, by rw [hl, hh]; exact hb.size, hp, by rw [hl]; exact h.1.keep (Nat.le_refl _) (fun k _ hk => hb.block k hk)⟩, h.2.trans (hb.mono h.2.size)⟩
theorem Mem.callRd (h : Mem w0 E W) (hb : Below W.heap.size W W') {A : Option Addr} {n c : Nat} {l : List UInt8} (ho : W'.ownsRow W.heap.size 5 1 (.slice A n c) n (l.map u8v)) : Mem w0 (rdE W.heap.size W'.heap.size A n l :: E) W' :=
  h.call hb _ rfl rfl (by
    have hr := Rd.of_own ho
    refine ⟨hr.1, fun hn => ?_⟩
    obtain ⟨b, off, e, h1, hc⟩ := hr.2 hn
    subst e
    exact ⟨b, off, rfl, (ho.lt b rfl).1, h1, hc⟩)
theorem Mem.callOwn (h : Mem w0 E W) (hb : Below W.heap.size W W') {v : Value} {n : Nat} {xs : List Value} (ho : W'.ownsRow W.heap.size 5 1 v n xs) : Mem w0 (ownE W.heap.size W'.heap.size v n xs :: E) W' :=
  h.call hb _ rfl rfl ⟨ho, fun k hk => (ho.lt k hk).2⟩
/-- a store into one block of the list -/
theorem Mem.put (h : Mem w0 E W) (i : Nat) {g : Nat} {t : TypeId} {cs : List Value} (he : E[i]? = some (blkE g t cs)) (cs' : List Value) (hg : W.grownBy W' (some g)) (hb : Blk W' g t cs') : Mem w0 (E.set i (blkE g t cs')) W' := by
  have hsz := hg.size
  refine ⟨(MemE.put h.1 i _ (blkE g t cs') he rfl rfl (fun k hk hne => hg.block k hk (fun e => hne ?_)) hb).keep hg.size (fun _ _ _ => rfl), ?_⟩
  · injection e with e
    subst e
    exact ⟨Nat.le_refl _, Nat.lt_succ_self _⟩
  · exact Below.grown h.2 hg h.2.size (fun k hk => by injection hk with hk; subst hk; exact MemE.low h.1 i _ he)
theorem Mem.setCell (h : Mem w0 E W) (i : Nat) {g : Nat} {t : TypeId} {cs : List Value} (he : E[i]? = some (blkE g t cs)) (j : Nat) (u : Value) : Mem w0 (E.set i (blkE g t (cs.set j u))) (W.setCell ⟨g, j, none⟩ u) := by
  have hw : W.heap.size ≤ (W.setCell ⟨g, j, none⟩ u).heap.size := by simp [World.setCell]
  refine ⟨(MemE.put h.1 i _ (blkE g t (cs.set j u)) he rfl rfl (fun k hk hne => Below.heap_setCell _ _ _ _ (fun e => hne ?_)) ((h.blk i he).set_ j u)).keep hw (fun _ _ _ => rfl), ?_⟩
  · dsimp only at e
    subst e
    exact ⟨Nat.le_refl _, Nat.lt_succ_self _⟩
  · exact h.2.setCell (MemE.low h.1 i _ he) _
/-- an argument's bytes, later -/
theorem Mem.arg (h : Mem w0 E W) {A : Option Addr} {n : Nat} {l : List UInt8} (hr : Rd w0 w0.heap.size A n l) : Rd W W.heap.size A n l := (hr.below h.2).mono h.2.size
end
theorem step_three {P : Program} {md : Region.Mode} {ops : Array Oper} {Q : Exit → Act → World → Prop} {S : World → Prop} {r r' r'' : List Oper} {o o' o'' : Oper} {fuel : Nat} {listed : Array Bool} {a : Act} {w : World} (i j k : Nat) (hi : ops.toList.drop i = o :: r) (hj : ops.toList.drop j = o' :: r') (hk : ops.toList.drop k = o'' :: r'')
    (hr : Region.ready md ops listed = [i, j, k])
    (h : ∀ K' : Act → World → Prop, Shut (∀ a w, S w → (S w → wpAnyH P md ops Q S fuel (listed.setIfInBounds i true) a w) → K' a w) → if Region.wanted o (yielded ops a.tmps) = true then Oper.wp P o a w K' Q else K' (a.put o.dst undef) w)
    (h' : ∀ K' : Act → World → Prop, Shut (∀ a w, S w → (S w → wpAnyH P md ops Q S fuel (listed.setIfInBounds j true) a w) → K' a w) → if Region.wanted o' (yielded ops a.tmps) = true then Oper.wp P o' a w K' Q else K' (a.put o'.dst undef) w)
    (h'' : ∀ K' : Act → World → Prop, Shut (∀ a w, S w → (S w → wpAnyH P md ops Q S fuel (listed.setIfInBounds k true) a w) → K' a w) → if Region.wanted o'' (yielded ops a.tmps) = true then Oper.wp P o'' a w K' Q else K' (a.put o''.dst undef) w) :
    wpAnyH P md ops Q S (fuel + 1) listed a w :=
  wpAnyH_ready hr (by simp) (AllReadyH.cons (getElem?_of_drop hi) h (AllReadyH.cons (getElem?_of_drop hj) h' (AllReadyH.cons (getElem?_of_drop hk) h'' AllReadyH.nil)))
theorem results_blk2 {P : Program} {fn : Func} {p q : Tmp} {ty ty' : TypeId} (h : fn.results = #[.cell p ty, .cell q ty']) (tmps : Array Value) (w : World) (g : Nat) (t : TypeId) (cs : List Value) (n : Nat) (e : TypeId)
    (hp : tmps.getD p undef = .pointer (some ⟨g, 0, none⟩)) (hg : Blk w g t cs) (hu : P.underlying ty = some (.array n e)) (hi : (P.info? ty).map (·.size) = some cs.length)
    (g' : Nat) (t' : TypeId) (cs' : List Value) (n' : Nat) (e' : TypeId)
    (hp2 : tmps.getD q undef = .pointer (some ⟨g', 0, none⟩)) (hg2 : Blk w g' t' cs') (hu2 : P.underlying ty' = some (.array n' e')) (hi2 : (P.info? ty').map (·.size) = some cs'.length) :
    (results fn tmps).run P w = .ok (.tuple #[.agg cs.toArray, .agg cs'.toArray]) w := by
  have hp' : tmps[p]?.getD undef = .pointer (some ⟨g, 0, none⟩) := by simpa using hp
  have hq' : tmps[q]?.getD undef = .pointer (some ⟨g', 0, none⟩) := by simpa using hp2
  simp [results, h, hp', hq', asAddr, run_loadVar_row w g t ty cs.toArray (0, 0) _ hg hu rfl (by simpa using hi), run_loadVar_row w g' t' ty' cs'.toArray (0, 0) _ hg2 hu2 rfl (by simpa using hi2)]
/-- the entries lie below B, whatever lies above it -/
def MemB (w0 : World) (B : Nat) (E : List Ent) (W : World) : Prop := MemE w0.heap.size E B W ∧ Below w0.heap.size w0 W ∧ B ≤ W.heap.size
section
variable {w0 W W' : World} {B : Nat} {E : List Ent}
theorem Mem.fix (h : Mem w0 E W) : MemB w0 W.heap.size E W := ⟨h.1, h.2, Nat.le_refl _⟩
theorem MemB.mem (h : MemB w0 B E W) : Mem w0 E W := ⟨h.1.keep h.2.2 (fun _ _ _ => rfl), h.2.1⟩
theorem MemB.below (h : MemB w0 B E W) (hb : Below B W W') : MemB w0 B E W' := ⟨h.1.keep (Nat.le_refl _) (fun k _ hk => hb.block k hk), h.2.1.trans (hb.mono h.1.base), Nat.le_trans h.2.2 hb.size⟩
/-- behind an append to a row that lies above -/
theorem MemB.grown (h : MemB w0 B E W) {v : Value} {e n : Nat} {xs : List Value} (ho : W.ownsRow B e 1 v n xs) (hg : W.grownBy W' v.ownBlock) : MemB w0 B E W' := h.below ((Below.refl _ _).grown hg h.2.2 (own_from ho))
/-- the row that lies above becomes an entry -/
theorem MemB.row (h : MemB w0 B E W) {A : Option Addr} {n c : Nat} {l : List UInt8} (ho : W.ownsRow B 5 1 (.slice A n c) n (l.map u8v)) : Mem w0 (rdE B W.heap.size A n l :: E) W :=
  ⟨⟨Nat.le_refl _, h.2.2, by
    have hr := Rd.of_own ho
    refine ⟨hr.1, fun hn => ?_⟩
    obtain ⟨b, off, e, h1, hc⟩ := hr.2 hn
    subst e
    exact ⟨b, off, rfl, (ho.lt b rfl).1, h1, hc⟩, h.1⟩, h.2.1⟩
theorem MemB.arg (h : MemB w0 B E W) {A : Option Addr} {n : Nat} {l : List UInt8} (hr : Rd w0 w0.heap.size A n l) : Rd W W.heap.size A n l := (hr.below h.2.1).mono h.2.1.size
end
end Go.Proofs.Ytkbefhmgcodpaaa
namespace Go.Proofs.Ytkbefhmgcodpaaa
open Go.RowKit

set_option maxRecDepth 100000 in
theorem cut_any (B : Nat) (A : Option Addr) (len cap m : Nat) (l : List UInt8) (hlc : len ≤ cap) (_hcm : cap ≤ maxLen) (w : World) (hr : Rd w B A len l) :
    Calls Try.prog 5 #[.slice A len cap, .int .i64 m] w fun e w' => e = .returned (.slice A (min len m) cap) ∧ Rd w B A (min len m) (l.take m) ∧ w = w' := by
  have hrd : Rd w B A (min len m) (l.take m) := by
    have h := hr.take (m := min len m) (by omega)
    have h1 := hr.1
    by_cases hc : len ≤ m
    · rwa [show min len m = len from by omega, List.take_of_length_le (by omega), ← List.take_of_length_le (show l.length ≤ m from by omega), ← show min len m = len from by omega] at h
    · rwa [show min len m = m from by omega] at h ⊢
  have HR := Lib.hid hrd
  clear hrd hr
  unfold maxLen at _hcm
  by_cases hc : len ≤ m
  · rw [show min len m = len from by omega] at HR ⊢
    have b1 : (len : Int) ≤ (cap : Int) := by omega
    go_enter Try.func5, Try.ntmps5
    go_wp2
    go_ret
    exact ⟨rfl, HR.out, rfl⟩
  · rw [show min len m = m from by omega] at HR ⊢
    have b1 : (m : Int) ≤ (cap : Int) := by omega
    go_enter Try.func5, Try.ntmps5
    go_wp2
    go_ret
    exact ⟨rfl, HR.out, rfl⟩

end Go.Proofs.Ytkbefhmgcodpaaa
namespace Go.Proofs.Ytkbefhmgcodpaaa
open Go.RowKit

theorem fill_bytes : ∀ (l : List UInt8) (k : Nat) (base : Array Value), base.size = k + l.length →
    Instr.fill (fun i => some (i * 1, 1)) base ((l.zipIdx k).map fun p => (p.2, u8v p.1)) = some (base.toList.take k ++ l.map u8v).toArray
  | [], k, base, h => by
    have : base.toList.take k = base.toList := List.take_of_length_le (by rw [Array.length_toList]; simp at h; omega)
    simp [Instr.fill, this]
  | b :: l, k, base, h => by
    rw [List.zipIdx_cons, List.map_cons, Instr.fill]
    have hk : k < base.size := by rw [h]; simp
    have hs : ((u8v b).cells.zipIdx.foldl (fun cs (x : Value × Nat) => cs.setIfInBounds (k * 1 + x.2) x.1) base) = base.setIfInBounds k (u8v b) := by
      rw [Nat.mul_one]
      rfl
    have hc : (u8v b).cells.size = 1 := rfl
    rw [hc]
    have ht : ¬ (decide ((1 : Nat) ≠ 1) || decide (k * 1 + 1 > base.size)) = true := by simp; omega
    refine (if_neg ht).trans ?_
    refine (congrArg (fun x => Instr.fill (fun i => some (i * 1, 1)) x ((l.zipIdx (k + 1)).map fun p => (p.2, u8v p.1))) hs).trans ?_
    rw [fill_bytes l (k + 1) _ (by rw [Array.size_setIfInBounds, h, List.length_cons]; omega)]
    congr 2
    rw [Array.toList_setIfInBounds, List.take_succ_eq_append_getElem (by rw [List.length_set, Array.length_toList]; exact hk), List.take_set_of_le (Nat.le_refl _), List.getElem_set_self, List.append_assoc, List.map_cons]
    rfl
theorem wpList_buildBytes {P : Program} {w : World} {ops : Array Oper} {rest : List Oper} {o : Oper} {act : Act} {Q : Exit → Act → World → Prop} (hgd : o.guard = none) (ty e : TypeId) (n : Nat) (ps : Array (Nat × Operand)) (ho : o.op = .buildSlice ty n ps)
    (l : List UInt8) (hps : (ps.map fun x => (x.1, act.eval x.2)).toList = (l.zipIdx 0).map fun p => (p.2, u8v p.1)) (hl : l.length = n) (hn0 : 0 < n) (hn1 : n ≤ 1000) (hu : P.underlying ty = some (.slice e)) (i : TypeInfo) (hi : P.info? e = some i) (hs : i.size = 1) (z : Value) (hz : i.zero = some z)
    (h : wpList P ops Q rest (act.put o.dst (.slice (some ⟨w.heap.size, 0, none⟩) n n)) (w.alloc (.cells (l.map u8v).toArray e))) : wpList P ops Q (o :: rest) act w :=
  wpList_plain hgd fun K hK => by
    unfold Oper.wp execOp
    have hf : ∀ z : Array Value, Instr.fill (fun i => some (i * 1, 1)) ((Array.range (n * 1)).map (z[· % z.size]!)) (ps.map fun x => (x.1, act.eval x.2)).toList = some (l.map u8v).toArray := fun z => by
      rw [hps, fill_bytes l 0 _ (by simp [hl])]
      simp
    have h24 : ¬ n * 1 > 2 ^ 24 := by omega
    have h20 : ¬ n * 1 = 0 := by omega
    simp only [ho, Instr.buildSlice, Sem.run_bind, run_underlying hu, sizeOf, zeroValue, typeInfo, Result.andThen_ok]
    simp [hi, hs, hz, newRow, -Array.toList_map]
    have hf' : ∀ z : Array Value, Instr.fill (fun i => some (i, 1)) ((Array.range n).map (z[· % z.size]!)) (ps.map fun x => (x.1, act.eval x.2)).toList = some (l.map u8v).toArray := fun z => by
      have := hf z
      simpa only [Nat.mul_one] using this
    rw [if_neg (by omega), if_neg (by omega), hf']
    exact hK _ _ h
end Go.Proofs.Ytkbefhmgcodpaaa
namespace Go.Proofs.Ytkbefhmgcodpaaa
open Go.RowKit

/-- aead.Seal seals -/
def SealC : Prop := ∀ (k nn : List UInt8), k.length = 32 → nn.length = 12 → ∀ (Ap Am : Option Addr) (np cp nm cm : Nat) (pl more : List UInt8), np ≤ cp → cp ≤ maxLen → nm ≤ cm → cm ≤ maxLen → np ≤ 100000 → nm ≤ 100000 → ∀ w : World, Rd w w.heap.size Ap np pl → Rd w w.heap.size Am nm more →
  Calls Try.prog 22 #[.agg (k.map u8v).toArray, .agg (nn.map u8v).toArray, .slice Ap np cp, .slice Am nm cm] w fun e w' => ∃ A c', e = .returned (.slice A (np + 16) c') ∧ w'.ownsRow w.heap.size 5 1 (.slice A (np + 16) c') (np + 16) ((sealL k nn pl more).map u8v) ∧ Below w.heap.size w w'
/-- aead.Open opens, or gives the error -/
def OpenC : Prop := ∀ (k nn : List UInt8), k.length = 32 → nn.length = 12 → ∀ (As Am : Option Addr) (ns cs nm cm : Nat) (sl more : List UInt8), ns ≤ cs → cs ≤ maxLen → nm ≤ cm → cm ≤ maxLen → ns ≤ 100000 → nm ≤ 100000 → ∀ w : World, Rd w w.heap.size As ns sl → Rd w w.heap.size Am nm more →
  Calls Try.prog 23 #[.agg (k.map u8v).toArray, .agg (nn.map u8v).toArray, .slice As ns cs, .slice Am nm cm] w fun e w' => ∃ A c', e = .returned (.tuple #[.slice A (openL k nn sl more).1.length c', .int .i64 ((openL k nn sl more).2 : Int)]) ∧ Rd w' w'.heap.size A (openL k nn sl more).1.length (openL k nn sl more).1 ∧ (openL k nn sl more).1.length ≤ c' ∧ c' ≤ maxLen ∧ Below w.heap.size w w'
theorem ae_conv {w : World} {B n : Nat} {A : Option Addr} {l : List UInt8} (h : Rd w B A n l) (c : Nat) : (convert 27 9 (.slice A n c)).run Try.prog w = .ok (.string ⟨l.toArray⟩) w :=
  run_string_of_rd (P := Try.prog) 27 9 5 c Try.underlying27 Try.underlying5 Try.underlying9 h
def aeRow (j : Nat) : List UInt8 := aeK.take j ++ List.replicate (32 - j) 0
theorem aeK_length : aeK.length = 32 := by simp [aeK]
theorem aeRow_length (j : Nat) (h : j ≤ 32) : (aeRow j).length = 32 := by
  rw [aeRow, List.length_append, List.length_take, List.length_replicate, aeK_length]; omega
theorem aeRow_set (j : Nat) (h : j < 32) : (aeRow j).set j (UInt8.ofNat (128 + j)) = aeRow (j + 1) := by
  have hk := aeK_length
  unfold aeRow
  rw [List.set_append_right _ _ (by rw [List.length_take]; omega), List.length_take, hk, Nat.min_eq_left (by omega), Nat.sub_self, show 32 - j = (32 - (j + 1)) + 1 by omega, List.replicate_succ, List.set_cons_zero, List.take_succ_eq_append_getElem (by omega), List.append_assoc]
  simp [aeK]
theorem aeRow_end : aeRow 32 = aeK := by rw [aeRow, List.take_of_length_le (by rw [aeK_length]; exact Nat.le_refl _)]; simp
theorem ae_u8 (j : Nat) (h : j < 32) : u8v (UInt8.ofNat (128 + j)) = .int .u8 (128 + (j : Int)) := by
  unfold u8v
  rw [UInt8.toNat_ofNat', Nat.mod_eq_of_lt (by omega)]
  simp
theorem rd_new' (w : World) (t : TypeId) (l : List UInt8) : Rd (w.alloc (.cells (l.map u8v).toArray t)) (w.heap.size + 1) (some ⟨w.heap.size, 0, none⟩) l.length l := by
  have h := (Blk.new w t (l.map u8v)).rd 0 l.length (by omega)
  rwa [List.drop_zero, List.take_length] at h
theorem rd_mark (w : World) (t : TypeId) (l : List UInt8) (n : Nat) (hl : l.length = n) (fr : Nat × Nat) : Rd (w.alloc (.cells (l.map u8v).toArray t fr)) (w.heap.size + 1) (some ⟨w.heap.size, 0, none⟩) n l := by
  refine ⟨hl, fun _ => ⟨w.heap.size, 0, rfl, by omega, fun j hj => ?_⟩⟩
  rw [Nat.zero_add, World.cell?_alloc_mark]
  simpa using map_u8v_getElem? l j hj
end Go.Proofs.Ytkbefhmgcodpaaa
namespace Go.Proofs.Ytkbefhmgcodpaaa
open Go.RowKit

set_option maxRecDepth 100000 in
set_option maxHeartbeats 8000000 in
theorem xc_returns_walk (HD : DeriveC) (HS : XSealC) (HO : XOpenC) (w : World) (k n : List UInt8) (Ap : Option Addr) (np cp : Nat) (lp : List UInt8) (Am : Option Addr) (nm cm : Nat) (lm : List UInt8) (hk : k.length = 32) (hn : n.length = 24) (hpc : np ≤ cp) (hpm : cp ≤ maxLen) (hrp : Rd w w.heap.size Ap np lp) (hmc : nm ≤ cm) (hmm : cm ≤ maxLen) (hrm : Rd w w.heap.size Am nm lm) :
    Calls Try.prog 4 #[.agg (k.map u8v).toArray, .agg (n.map u8v).toArray, .slice Ap np cp, .slice Am nm cm] w fun e w' => e = .returned (.bool true) ∧ Below w.heap.size w w' := by
  obtain ⟨ck, hck⟩ : ∃ ck, (k.map u8v).toArray = ck := ⟨_, rfl⟩
  obtain ⟨cn, hcn⟩ : ∃ cn, (n.map u8v).toArray = cn := ⟨_, rfl⟩
  have SC := HS k n hk hn
  have OC := HO k n hk hn
  rw [hck, hcn] at SC OC
  rw [hck, hcn]
  have HM := Lib.hid (show Mem w [blkE (w.heap.size + 1) 26 (n.map u8v), blkE w.heap.size 23 (k.map u8v)] ((w.alloc (.cells ck 23)).alloc (.cells cn 26)) from ((Mem.nil w).alloc rfl 23 ck (k.map u8v) hck.symm).alloc (by simp) 26 cn (n.map u8v) hcn.symm)
  have HC := Lib.hid (And.intro hck hcn)
  have HL := Lib.hid (And.intro hk hn)
  have HSC := Lib.hid SC
  have HOC := Lib.hid OC
  have HBG := Lib.hid (xc_begun_any HD)
  have HP := Lib.hid hrp
  have HR := Lib.hid hrm
  clear hck hcn hk hn SC OC HD HS HO hrp hrm
  go_enter Try.func4, Try.ntmps4
  go_upto_region 1 with fail
  generalize ((w.alloc (.cells ck 23)).alloc (.cells cn 26)) = w1 at HM ⊢
  go_wp2_with fail
  refine (cut_any _ Ap np cp 100 lp hpc hpm _ (HP.out.below HM.out.bel)).mono ?_
  rintro e w2 ⟨rfl, hp2, rfl⟩
  clear hp2
  go_wp2_with fail
  refine (cut_any _ Am nm cm 30 lm hmc hmm _ (HR.out.below HM.out.bel)).mono ?_
  rintro e w2 ⟨rfl, hm2, rfl⟩
  clear hm2
  obtain ⟨pn, hpn⟩ : ∃ pn, min np 100 = pn := ⟨_, rfl⟩
  obtain ⟨mn, hmn⟩ : ∃ mn, min nm 30 = mn := ⟨_, rfl⟩
  have hp1 : pn ≤ cp := by omega
  have hp2 : pn ≤ 100 := by omega
  have hm1 : mn ≤ cm := by omega
  have hm2 : mn ≤ 30 := by omega
  replace HP := Lib.hid (HP.out.take (m := pn) (by omega))
  replace HR := Lib.hid (HR.out.take (m := mn) (by omega))
  rw [hpn, hmn]
  clear hpn hmn
  generalize lp.take pn = pl at HP
  generalize lm.take mn = ml at HR
  have HPL := Lib.hid HP.out.1
  go_wp2_with (first | (refine wpList_load_blk rfl 23 (.tmp 4) rfl w.heap.size rfl 23 (k.map u8v) (HM.out.blk 1 rfl) 32 5 Try.underlying23 (cells32 k HL.out.1) ?_; rw [HC.out.1]) | (refine wpList_load_blk rfl 26 (.tmp 5) rfl (w.heap.size + 1) rfl 26 (n.map u8v) (HM.out.blk 0 rfl) 24 5 Try.underlying26 (xc_cellsL n HL.out.2) ?_; rw [HC.out.2]))
  refine (HSC.out Ap Am pn cp mn cm pl ml hp1 hpm hm1 hmm (by omega) (by omega) _ (HM.out.arg HP.out) (HM.out.arg HR.out)).mono ?_
  rintro e w3 ⟨A3, c3, rfl, ho, hb⟩
  have hq3 := own_addr ho
  have hc3 := hq3.1
  have hc4 := hq3.2.1
  replace HM := Lib.hid (show Mem w [rdE w1.heap.size w3.heap.size A3 (pn + 16) (xsealL k n pl ml), blkE (w.heap.size + 1) 26 (n.map u8v), blkE w.heap.size 23 (k.map u8v)] w3 from HM.out.callRd hb ho)
  clear ho hb hq3
  go_wp2_with (first | (refine wpList_load_blk rfl 23 (.tmp 4) rfl w.heap.size rfl 23 (k.map u8v) (HM.out.blk 2 rfl) 32 5 Try.underlying23 (cells32 k HL.out.1) ?_; rw [HC.out.1]) | (refine wpList_load_blk rfl 26 (.tmp 5) rfl (w.heap.size + 1) rfl 26 (n.map u8v) (HM.out.blk 1 rfl) 24 5 Try.underlying26 (xc_cellsL n HL.out.2) ?_; rw [HC.out.2]))
  refine (HOC.out A3 Am (pn + 16) c3 mn cm _ ml hc3 hc4 hm1 hmm (by omega) (by omega) _ (HM.out.rd 0 rfl) (HM.out.arg HR.out)).mono ?_
  rintro e w4 ⟨A4, c4, he4, hr4, hq4, hq5, hb⟩
  rw [xopen_seal] at he4 hr4 hq4
  rw [show ((pl, 0) : List UInt8 × Nat).1 = pl from rfl, show pl.length = pn from HPL.out] at he4 hr4 hq4
  subst he4
  replace HM := Lib.hid (HM.out.below hb)
  clear hb
  have cvq : (convert 27 9 (.slice A4 pn c4)).run Try.prog w4 = .ok (.string ⟨pl.toArray⟩) w4 := ae_conv hr4 c4
  have cvp : (convert 27 9 (.slice Ap pn cp)).run Try.prog w4 = .ok (.string ⟨pl.toArray⟩) w4 := ae_conv (HM.out.arg HP.out) cp
  have hw16 : IntKind.i64.wrap ((pn : Int) + 16) = (pn : Int) + 16 := IntWalk.i64_in _ (by omega)
  clear hr4 hq4 hq5
  go_wp2_with fail
  clear cvq cvp hw16
  refine (HBG.out _).mono ?_
  rintro e w5 ⟨rfl, hb⟩
  have HF := Lib.hid (HM.out.below hb).bel
  clear hb HM
  go_wp2_with fail
  go_ret
  exact ⟨rfl, HF.out⟩
end Go.Proofs.Ytkbefhmgcodpaaa
namespace Go.Proofs.Ytkbefhmgcodpaaa
open Go.RowKit

set_option maxRecDepth 100000 in
set_option maxHeartbeats 8000000 in
theorem refQuarter_any (l : List UInt32) (hl : l.length = 16) (a b c d : Nat) (ha : a < 16) (hb : b < 16) (hc : c < 16) (hd : d < 16) (w : World) :
    Calls Try.prog 30 #[.agg (l.map u32v).toArray, .int .i64 (a : Int), .int .i64 (b : Int), .int .i64 (c : Int), .int .i64 (d : Int)] w fun e w' => e = .returned (.agg ((quarterW l a b c d).map u32v).toArray) ∧ Below w.heap.size w w' := by
  obtain ⟨cl, hcl⟩ : ∃ cl, (l.map u32v).toArray = cl := ⟨_, rfl⟩
  rw [hcl]
  have HB0 := Lib.hid (show Blk (w.alloc (.cells cl 44)) w.heap.size 44 (l.map u32v) by rw [← hcl]; exact Blk.new w _ _)
  obtain ⟨lz, hlz⟩ : ∃ lz, quarterW l a b c d = lz := ⟨_, rfl⟩
  rw [hlz]
  have HLZ := Lib.hid hlz
  have HL := Lib.hid hl
  clear hlz hl
  go_enter Try.func30, Try.ntmps30
  go_upto_region 1 with fail
  have hblk := HB0.out.alloc (.cells z16.toArray 44)
  have hz : Blk ((w.alloc (.cells cl 44)).alloc (.cells z16.toArray 44)) (w.heap.size + 1) 44 z16 := Blk.new' _ (by simp) _ _
  have hbel : Below w.heap.size w ((w.alloc (.cells cl 44)).alloc (.cells z16.toArray 44)) := ((Below.refl _ _).alloc (Nat.le_refl _) _).alloc (by simp) _
  rw [z16_arr] at hblk hz hbel
  clear HB0 hcl
  generalize (w.alloc (.cells cl 44)).alloc (.cells #[.int .u32 0, .int .u32 0, .int .u32 0, .int .u32 0, .int .u32 0, .int .u32 0, .int .u32 0, .int .u32 0, .int .u32 0, .int .u32 0, .int .u32 0, .int .u32 0, .int .u32 0, .int .u32 0, .int .u32 0, .int .u32 0] 44) = W1 at hblk hz hbel ⊢
  go_cut [] (fun wx => Blk wx w.heap.size 44 ((addW l a b).map u32v) ∧ Blk wx (w.heap.size + 1) 44 z16 ∧ Below w.heap.size w wx)
  case first =>
    have fx := hblk.word a (by have := HL.out; omega)
    have fy := hblk.word b (by have := HL.out; omega)
    have zx := hblk.frozen a
    have R := Lib.hid (fun q : Nat => And.intro ((hblk.drewN q).setWord a (wd l a + wd l b)) (And.intro ((hz.drewN q).far (p := ⟨w.heap.size, a, none⟩) (by simp) (.int .u32 ((wd l a + wd l b).toNat : Int))) ((below_drewN hbel q).setCell (p := ⟨w.heap.size, a, none⟩) (Nat.le_refl _) (.int .u32 ((wd l a + wd l b).toNat : Int)))))
    clear hblk hbel hz
    go_region
    simp only [u32_sum]
    go_wp2
    go_meet
    exact ⟨(R.out 0).1, (R.out 0).2.1, below_drewN (R.out 0).2.2 1⟩
  case rest =>
    obtain ⟨hblk, hz, hbel⟩ := hcut
    obtain ⟨l1, hl1⟩ : ∃ l1, addW l a b = l1 := ⟨_, rfl⟩
    rw [hl1] at hblk
    have E1 := Lib.hid hl1
    have HL := Lib.hid (show l1.length = 16 by rw [← hl1, addW_length]; exact HL.out)
    clear hl1
    go_upto_region 2 with fail
    go_cut [] (fun wx => Blk wx w.heap.size 44 ((mixW l1 d a 16).map u32v) ∧ Blk wx (w.heap.size + 1) 44 z16 ∧ Below w.heap.size w wx)
    case first =>
      have fx := hblk.word d (by have := HL.out; omega)
      have fy := hblk.word a (by have := HL.out; omega)
      have zx := hblk.frozen d
      have R := Lib.hid (fun q : Nat => And.intro ((hblk.drewN q).setWord d (rotl (wd l1 d ^^^ wd l1 a) 16)) (And.intro ((hz.drewN q).far (p := ⟨w.heap.size, d, none⟩) (by simp) (.int .u32 ((rotl (wd l1 d ^^^ wd l1 a) 16).toNat : Int))) ((below_drewN hbel q).setCell (p := ⟨w.heap.size, d, none⟩) (Nat.le_refl _) (.int .u32 ((rotl (wd l1 d ^^^ wd l1 a) 16).toNat : Int)))))
      have cx := fun w' : World => refLeft_any (wd l1 d ^^^ wd l1 a) 16 (by omega) (by omega) w'
      simp only [← u32_xor] at cx
      clear hblk hbel hz
      go_region_with ((go_at_call 42; refine (cx _).mono ?_; rintro e wa ⟨rfl, qa, rfl⟩))
      all_goals (go_wp2; go_meet; exact R.out _)
    case rest =>
      obtain ⟨hblk, hz, hbel⟩ := hcut
      obtain ⟨l2, hl2⟩ : ∃ l2, mixW l1 d a 16 = l2 := ⟨_, rfl⟩
      rw [hl2] at hblk
      have E2 := Lib.hid hl2
      have HL := Lib.hid (show l2.length = 16 by rw [← hl2, mixW_length]; exact HL.out)
      clear hl2
      go_upto_region 3 with fail
      go_cut [] (fun wx => Blk wx w.heap.size 44 ((addW l2 c d).map u32v) ∧ Blk wx (w.heap.size + 1) 44 z16 ∧ Below w.heap.size w wx)
      case first =>
        have fx := hblk.word c (by have := HL.out; omega)
        have fy := hblk.word d (by have := HL.out; omega)
        have zx := hblk.frozen c
        have R := Lib.hid (fun q : Nat => And.intro ((hblk.drewN q).setWord c (wd l2 c + wd l2 d)) (And.intro ((hz.drewN q).far (p := ⟨w.heap.size, c, none⟩) (by simp) (.int .u32 ((wd l2 c + wd l2 d).toNat : Int))) ((below_drewN hbel q).setCell (p := ⟨w.heap.size, c, none⟩) (Nat.le_refl _) (.int .u32 ((wd l2 c + wd l2 d).toNat : Int)))))
        clear hblk hbel hz
        go_region
        simp only [u32_sum]
        go_wp2
        go_meet
        exact ⟨(R.out 0).1, (R.out 0).2.1, below_drewN (R.out 0).2.2 1⟩
      case rest =>
        obtain ⟨hblk, hz, hbel⟩ := hcut
        obtain ⟨l3, hl3⟩ : ∃ l3, addW l2 c d = l3 := ⟨_, rfl⟩
        rw [hl3] at hblk
        have E3 := Lib.hid hl3
        have HL := Lib.hid (show l3.length = 16 by rw [← hl3, addW_length]; exact HL.out)
        clear hl3
        go_upto_region 4 with fail
        go_cut [] (fun wx => Blk wx w.heap.size 44 ((mixW l3 b c 12).map u32v) ∧ Blk wx (w.heap.size + 1) 44 z16 ∧ Below w.heap.size w wx)
        case first =>
          have fx := hblk.word b (by have := HL.out; omega)
          have fy := hblk.word c (by have := HL.out; omega)
          have zx := hblk.frozen b
          have R := Lib.hid (fun q : Nat => And.intro ((hblk.drewN q).setWord b (rotl (wd l3 b ^^^ wd l3 c) 12)) (And.intro ((hz.drewN q).far (p := ⟨w.heap.size, b, none⟩) (by simp) (.int .u32 ((rotl (wd l3 b ^^^ wd l3 c) 12).toNat : Int))) ((below_drewN hbel q).setCell (p := ⟨w.heap.size, b, none⟩) (Nat.le_refl _) (.int .u32 ((rotl (wd l3 b ^^^ wd l3 c) 12).toNat : Int)))))
          have cx := fun w' : World => refLeft_any (wd l3 b ^^^ wd l3 c) 12 (by omega) (by omega) w'
          simp only [← u32_xor] at cx
          clear hblk hbel hz
          go_region_with ((go_at_call 42; refine (cx _).mono ?_; rintro e wa ⟨rfl, qa, rfl⟩))
          all_goals (go_wp2; go_meet; exact R.out _)
        case rest =>
          obtain ⟨hblk, hz, hbel⟩ := hcut
          obtain ⟨l4, hl4⟩ : ∃ l4, mixW l3 b c 12 = l4 := ⟨_, rfl⟩
          rw [hl4] at hblk
          have E4 := Lib.hid hl4
          have HL := Lib.hid (show l4.length = 16 by rw [← hl4, mixW_length]; exact HL.out)
          clear hl4
          go_upto_region 5 with fail
          go_cut [] (fun wx => Blk wx w.heap.size 44 ((addW l4 a b).map u32v) ∧ Blk wx (w.heap.size + 1) 44 z16 ∧ Below w.heap.size w wx)
          case first =>
            have fx := hblk.word a (by have := HL.out; omega)
            have fy := hblk.word b (by have := HL.out; omega)
            have zx := hblk.frozen a
            have R := Lib.hid (fun q : Nat => And.intro ((hblk.drewN q).setWord a (wd l4 a + wd l4 b)) (And.intro ((hz.drewN q).far (p := ⟨w.heap.size, a, none⟩) (by simp) (.int .u32 ((wd l4 a + wd l4 b).toNat : Int))) ((below_drewN hbel q).setCell (p := ⟨w.heap.size, a, none⟩) (Nat.le_refl _) (.int .u32 ((wd l4 a + wd l4 b).toNat : Int)))))
            clear hblk hbel hz
            go_region
            simp only [u32_sum]
            go_wp2
            go_meet
            exact ⟨(R.out 0).1, (R.out 0).2.1, below_drewN (R.out 0).2.2 1⟩
          case rest =>
            obtain ⟨hblk, hz, hbel⟩ := hcut
            obtain ⟨l5, hl5⟩ : ∃ l5, addW l4 a b = l5 := ⟨_, rfl⟩
            rw [hl5] at hblk
            have E5 := Lib.hid hl5
            have HL := Lib.hid (show l5.length = 16 by rw [← hl5, addW_length]; exact HL.out)
            clear hl5
            go_upto_region 6 with fail
            go_cut [] (fun wx => Blk wx w.heap.size 44 ((mixW l5 d a 8).map u32v) ∧ Blk wx (w.heap.size + 1) 44 z16 ∧ Below w.heap.size w wx)
            case first =>
              have fx := hblk.word d (by have := HL.out; omega)
              have fy := hblk.word a (by have := HL.out; omega)
              have zx := hblk.frozen d
              have R := Lib.hid (fun q : Nat => And.intro ((hblk.drewN q).setWord d (rotl (wd l5 d ^^^ wd l5 a) 8)) (And.intro ((hz.drewN q).far (p := ⟨w.heap.size, d, none⟩) (by simp) (.int .u32 ((rotl (wd l5 d ^^^ wd l5 a) 8).toNat : Int))) ((below_drewN hbel q).setCell (p := ⟨w.heap.size, d, none⟩) (Nat.le_refl _) (.int .u32 ((rotl (wd l5 d ^^^ wd l5 a) 8).toNat : Int)))))
              have cx := fun w' : World => refLeft_any (wd l5 d ^^^ wd l5 a) 8 (by omega) (by omega) w'
              simp only [← u32_xor] at cx
              clear hblk hbel hz
              go_region_with ((go_at_call 42; refine (cx _).mono ?_; rintro e wa ⟨rfl, qa, rfl⟩))
              all_goals (go_wp2; go_meet; exact R.out _)
            case rest =>
              obtain ⟨hblk, hz, hbel⟩ := hcut
              obtain ⟨l6, hl6⟩ : ∃ l6, mixW l5 d a 8 = l6 := ⟨_, rfl⟩
              rw [hl6] at hblk
              have E6 := Lib.hid hl6
              have HL := Lib.hid (show l6.length = 16 by rw [← hl6, mixW_length]; exact HL.out)
              clear hl6
              go_upto_region 7 with fail
              go_cut [] (fun wx => Blk wx w.heap.size 44 ((addW l6 c d).map u32v) ∧ Blk wx (w.heap.size + 1) 44 z16 ∧ Below w.heap.size w wx)
              case first =>
                have fx := hblk.word c (by have := HL.out; omega)
                have fy := hblk.word d (by have := HL.out; omega)
                have zx := hblk.frozen c
                have R := Lib.hid (fun q : Nat => And.intro ((hblk.drewN q).setWord c (wd l6 c + wd l6 d)) (And.intro ((hz.drewN q).far (p := ⟨w.heap.size, c, none⟩) (by simp) (.int .u32 ((wd l6 c + wd l6 d).toNat : Int))) ((below_drewN hbel q).setCell (p := ⟨w.heap.size, c, none⟩) (Nat.le_refl _) (.int .u32 ((wd l6 c + wd l6 d).toNat : Int)))))
                clear hblk hbel hz
                go_region
                simp only [u32_sum]
                go_wp2
                go_meet
                exact ⟨(R.out 0).1, (R.out 0).2.1, below_drewN (R.out 0).2.2 1⟩
              case rest =>
                obtain ⟨hblk, hz, hbel⟩ := hcut
                obtain ⟨l7, hl7⟩ : ∃ l7, addW l6 c d = l7 := ⟨_, rfl⟩
                rw [hl7] at hblk
                have E7 := Lib.hid hl7
                have HL := Lib.hid (show l7.length = 16 by rw [← hl7, addW_length]; exact HL.out)
                clear hl7
                go_upto_region 8 with fail
                go_cut [] (fun wx => Blk wx w.heap.size 44 ((mixW l7 b c 7).map u32v) ∧ Blk wx (w.heap.size + 1) 44 z16 ∧ Below w.heap.size w wx)
                case first =>
                  have fx := hblk.word b (by have := HL.out; omega)
                  have fy := hblk.word c (by have := HL.out; omega)
                  have zx := hblk.frozen b
                  have R := Lib.hid (fun q : Nat => And.intro ((hblk.drewN q).setWord b (rotl (wd l7 b ^^^ wd l7 c) 7)) (And.intro ((hz.drewN q).far (p := ⟨w.heap.size, b, none⟩) (by simp) (.int .u32 ((rotl (wd l7 b ^^^ wd l7 c) 7).toNat : Int))) ((below_drewN hbel q).setCell (p := ⟨w.heap.size, b, none⟩) (Nat.le_refl _) (.int .u32 ((rotl (wd l7 b ^^^ wd l7 c) 7).toNat : Int)))))
                  have cx := fun w' : World => refLeft_any (wd l7 b ^^^ wd l7 c) 7 (by omega) (by omega) w'
                  simp only [← u32_xor] at cx
                  clear hblk hbel hz
                  go_region_with ((go_at_call 42; refine (cx _).mono ?_; rintro e wa ⟨rfl, qa, rfl⟩))
                  all_goals (go_wp2; go_meet; exact R.out _)
                case rest =>
                  obtain ⟨hblk, hz, hbel⟩ := hcut
                  obtain ⟨l8, hl8⟩ : ∃ l8, mixW l7 b c 7 = l8 := ⟨_, rfl⟩
                  rw [hl8] at hblk
                  have E8 := Lib.hid hl8
                  have HL := Lib.hid (show l8.length = 16 by rw [← hl8, mixW_length]; exact HL.out)
                  clear hl8
                  have HZ : l8 = lz := by rw [← E8.out, ← E7.out, ← E6.out, ← E5.out, ← E4.out, ← E3.out, ← E2.out, ← E1.out]; exact HLZ.out
                  subst HZ
                  have HB := Lib.hid (And.intro hblk (And.intro hz hbel))
                  obtain ⟨cz, hcz⟩ : ∃ cz, (l8.map u32v).toArray = cz := ⟨_, rfl⟩
                  have HCZ := Lib.hid hcz
                  clear hblk hz hbel hcz
                  go_upto_region 9 with fail
                  go_wp2_with (first | (refine wpList_load_blk rfl 44 (.tmp 5) rfl w.heap.size rfl 44 (l8.map u32v) HB.out.1 16 43 Try.underlying44 (cells16 l8 HL.out) ?_; rw [HCZ.out]) | (refine wpList_store_blk rfl 44 (.tmp 10) (.tmp 83) rfl (w.heap.size + 1) (l8.map u32v) rfl (by show Value.agg cz = _; rw [HCZ.out]) 44 z16 HB.out.2.1 (cells16 l8 HL.out) (by rw [List.length_map, HL.out]; rfl) (u32v_one _) ?_; intro w9 hb9 hg9))
                  exact bodyPost_ret (results_blk rfl _ _ (w.heap.size + 1) 44 (l8.map u32v) 16 43 rfl hb9 Try.underlying44 (cells16 l8 HL.out)) rfl ⟨rfl, below_blk HB.out.2.2 hg9 (by omega)⟩

theorem refQ_at {l l' : List UInt32} {s s' : Array Value} (hl : l.length = 16) (a b c d : Nat) (X Y U V : Int) (hX : X = (a : Int)) (hY : Y = (b : Int)) (hU : U = (c : Int)) (hV : V = (d : Int)) (ha : a < 16) (hb : b < 16) (hc : c < 16) (hd : d < 16)
    (h : quarterW l a b c d = l') (hs : (l.map u32v).toArray = s) (hs' : (l'.map u32v).toArray = s') (w : World) :
    Calls Try.prog 30 #[.agg s, .int .i64 X, .int .i64 Y, .int .i64 U, .int .i64 V] w fun e w' => e = .returned (.agg s') ∧ Below w.heap.size w w' := by
  subst hX hY hU hV hs hs' h
  exact refQuarter_any l hl a b c d ha hb hc hd w

set_option maxRecDepth 100000 in
set_option maxHeartbeats 4000000 in
theorem refCore_any (l : List UInt32) (hl : l.length = 16) (w : World) :
    Calls Try.prog 18 #[.agg (l.map u32v).toArray] w fun e w' => e = .returned (.agg ((coreW 10 l).map u32v).toArray) ∧ Below w.heap.size w w' := by
  obtain ⟨cl, hcl⟩ : ∃ cl, (l.map u32v).toArray = cl := ⟨_, rfl⟩
  rw [hcl]
  have HB0 := Lib.hid (show Blk (w.alloc (.cells cl 44)) w.heap.size 44 (l.map u32v) by rw [← hcl]; exact Blk.new w _ _)
  obtain ⟨lz, hlz⟩ : ∃ lz, coreW 10 l = lz := ⟨_, rfl⟩
  rw [hlz]
  have HLZ := Lib.hid hlz
  have HL := Lib.hid hl
  clear hl hlz
  go_enter Try.func18, Try.ntmps18
  go_upto_region 1 with fail
  have hk1 := HB0.out.alloc (.cells z16.toArray 44)
  have hz1 : Blk ((w.alloc (.cells cl 44)).alloc (.cells z16.toArray 44)) (w.heap.size + 1) 44 z16 := Blk.new' _ (by simp) _ _
  have hbel1 : Below w.heap.size w ((w.alloc (.cells cl 44)).alloc (.cells z16.toArray 44)) := ((Below.refl _ _).alloc (Nat.le_refl _) _).alloc (by simp) _
  rw [z16_arr] at hk1 hz1 hbel1
  clear HB0 hcl
  generalize ((w.alloc (.cells cl 44)).alloc (.cells #[.int .u32 0, .int .u32 0, .int .u32 0, .int .u32 0, .int .u32 0, .int .u32 0, .int .u32 0, .int .u32 0, .int .u32 0, .int .u32 0, .int .u32 0, .int .u32 0, .int .u32 0, .int .u32 0, .int .u32 0, .int .u32 0] 44)) = w1 at hk1 hz1 hbel1 ⊢
  go_wp2_with fail
  go_loopw [3] (fun i wr => ∃ j : Nat, j ≤ 10 ∧ i = .int .i64 j ∧ Blk wr w.heap.size 44 ((coreW j l).map u32v) ∧ Blk wr (w.heap.size + 1) 44 z16 ∧ Below w.heap.size w wr) (fun i _ => 10 - (intOf i).toNat)
  case atStart => exact ⟨0, by omega, rfl, hk1, hz1, hbel1⟩
  case round =>
    obtain ⟨j, hj, rfl, hblk, hz, hbel⟩ := hrel
    clear hk1 hz1 hbel1
    by_cases hlt : j < 10
    · obtain ⟨l0, hl0⟩ : ∃ l0, coreW j l = l0 := ⟨_, rfl⟩
      rw [hl0] at hblk
      have HL0 := Lib.hid (show l0.length = 16 by rw [← hl0, coreW_length]; exact HL.out)
      have E0 := Lib.hid hl0
      clear hl0
      have d10 : decide ((j : Int) < 10) = true := by simp; omega
      obtain ⟨s0, hs0⟩ : ∃ s0, (l0.map u32v).toArray = s0 := ⟨_, rfl⟩
      have HS0 := Lib.hid hs0
      clear hs0
      have HB0 := Lib.hid (And.intro hblk (And.intro hz hbel))
      clear hblk hz hbel
      obtain ⟨l1, h1⟩ : ∃ l1, quarterW l0 0 4 8 12 = l1 := ⟨_, rfl⟩
      obtain ⟨s1, hs⟩ : ∃ s1, (l1.map u32v).toArray = s1 := ⟨_, rfl⟩
      have HL1 := Lib.hid (show l1.length = 16 by rw [← h1, quarterW_length]; exact HL0.out)
      have QC := Lib.hid (refQ_at (l := l0) HL0.out 0 4 8 12 0 4 8 12 rfl rfl rfl rfl (by omega) (by omega) (by omega) (by omega) h1 HS0.out hs)
      have E1 := Lib.hid h1
      have HS1 := Lib.hid hs
      clear h1 hs
      go_wp2_with (refine wpList_load_blk rfl 44 (.tmp 1) rfl w.heap.size rfl 44 (l0.map u32v) HB0.out.1 16 43 Try.underlying44 (cells16 l0 HL0.out) ?_; rw [HS0.out])
      clear d10
      refine (QC.out _).mono ?_
      rintro e w1 ⟨rfl, hq⟩
      have hb1 := HB0.out.1.below hq HB0.out.1.lt
      have hz1 := HB0.out.2.1.below hq HB0.out.2.1.lt
      have hw1 := HB0.out.2.2.trans (hq.mono HB0.out.2.2.size)
      clear hq QC
      go_upto_region 5 with (refine wpList_store_blk rfl 44 (.tmp 1) (.tmp 9) rfl w.heap.size (l1.map u32v) rfl (by rw [HS1.out]; rfl) 44 (l0.map u32v) hb1 (cells16 l1 HL1.out) (by rw [List.length_map, List.length_map, HL1.out, HL0.out]) (u32v_one _) ?_; intro x1 hbx hgx)
      try simp only [Act.put]
      have HB1 := Lib.hid (show Blk x1 w.heap.size 44 (l1.map u32v) ∧ Blk x1 (w.heap.size + 1) 44 z16 ∧ Below w.heap.size w x1 from ⟨hbx, hz1.grown hgx (by simp), below_blk hw1 hgx (Nat.le_refl _)⟩)
      clear hb1 hz1 hw1 hbx hgx HB0
      obtain ⟨l2, h2⟩ : ∃ l2, quarterW l1 1 5 9 13 = l2 := ⟨_, rfl⟩
      obtain ⟨s2, hs⟩ : ∃ s2, (l2.map u32v).toArray = s2 := ⟨_, rfl⟩
      have HL2 := Lib.hid (show l2.length = 16 by rw [← h2, quarterW_length]; exact HL1.out)
      have QC := Lib.hid (refQ_at (l := l1) HL1.out 1 5 9 13 1 5 9 13 rfl rfl rfl rfl (by omega) (by omega) (by omega) (by omega) h2 HS1.out hs)
      have E2 := Lib.hid h2
      have HS2 := Lib.hid hs
      clear h2 hs
      go_wp2_with (refine wpList_load_blk rfl 44 (.tmp 1) rfl w.heap.size rfl 44 (l1.map u32v) HB1.out.1 16 43 Try.underlying44 (cells16 l1 HL1.out) ?_; rw [HS1.out])
      refine (QC.out _).mono ?_
      rintro e w2 ⟨rfl, hq⟩
      have hb2 := HB1.out.1.below hq HB1.out.1.lt
      have hz2 := HB1.out.2.1.below hq HB1.out.2.1.lt
      have hw2 := HB1.out.2.2.trans (hq.mono HB1.out.2.2.size)
      clear hq QC
      go_upto_region 6 with (refine wpList_store_blk rfl 44 (.tmp 1) (.tmp 11) rfl w.heap.size (l2.map u32v) rfl (by rw [HS2.out]; rfl) 44 (l1.map u32v) hb2 (cells16 l2 HL2.out) (by rw [List.length_map, List.length_map, HL2.out, HL1.out]) (u32v_one _) ?_; intro x2 hbx hgx)
      try simp only [Act.put]
      have HB2 := Lib.hid (show Blk x2 w.heap.size 44 (l2.map u32v) ∧ Blk x2 (w.heap.size + 1) 44 z16 ∧ Below w.heap.size w x2 from ⟨hbx, hz2.grown hgx (by simp), below_blk hw2 hgx (Nat.le_refl _)⟩)
      clear hb2 hz2 hw2 hbx hgx HB1
      obtain ⟨l3, h3⟩ : ∃ l3, quarterW l2 2 6 10 14 = l3 := ⟨_, rfl⟩
      obtain ⟨s3, hs⟩ : ∃ s3, (l3.map u32v).toArray = s3 := ⟨_, rfl⟩
      have HL3 := Lib.hid (show l3.length = 16 by rw [← h3, quarterW_length]; exact HL2.out)
      have QC := Lib.hid (refQ_at (l := l2) HL2.out 2 6 10 14 2 6 10 14 rfl rfl rfl rfl (by omega) (by omega) (by omega) (by omega) h3 HS2.out hs)
      have E3 := Lib.hid h3
      have HS3 := Lib.hid hs
      clear h3 hs
      go_wp2_with (refine wpList_load_blk rfl 44 (.tmp 1) rfl w.heap.size rfl 44 (l2.map u32v) HB2.out.1 16 43 Try.underlying44 (cells16 l2 HL2.out) ?_; rw [HS2.out])
      refine (QC.out _).mono ?_
      rintro e w3 ⟨rfl, hq⟩
      have hb3 := HB2.out.1.below hq HB2.out.1.lt
      have hz3 := HB2.out.2.1.below hq HB2.out.2.1.lt
      have hw3 := HB2.out.2.2.trans (hq.mono HB2.out.2.2.size)
      clear hq QC
      go_upto_region 7 with (refine wpList_store_blk rfl 44 (.tmp 1) (.tmp 13) rfl w.heap.size (l3.map u32v) rfl (by rw [HS3.out]; rfl) 44 (l2.map u32v) hb3 (cells16 l3 HL3.out) (by rw [List.length_map, List.length_map, HL3.out, HL2.out]) (u32v_one _) ?_; intro x3 hbx hgx)
      try simp only [Act.put]
      have HB3 := Lib.hid (show Blk x3 w.heap.size 44 (l3.map u32v) ∧ Blk x3 (w.heap.size + 1) 44 z16 ∧ Below w.heap.size w x3 from ⟨hbx, hz3.grown hgx (by simp), below_blk hw3 hgx (Nat.le_refl _)⟩)
      clear hb3 hz3 hw3 hbx hgx HB2
      obtain ⟨l4, h4⟩ : ∃ l4, quarterW l3 3 7 11 15 = l4 := ⟨_, rfl⟩
      obtain ⟨s4, hs⟩ : ∃ s4, (l4.map u32v).toArray = s4 := ⟨_, rfl⟩
      have HL4 := Lib.hid (show l4.length = 16 by rw [← h4, quarterW_length]; exact HL3.out)
      have QC := Lib.hid (refQ_at (l := l3) HL3.out 3 7 11 15 3 7 11 15 rfl rfl rfl rfl (by omega) (by omega) (by omega) (by omega) h4 HS3.out hs)
      have E4 := Lib.hid h4
      have HS4 := Lib.hid hs
      clear h4 hs
      go_wp2_with (refine wpList_load_blk rfl 44 (.tmp 1) rfl w.heap.size rfl 44 (l3.map u32v) HB3.out.1 16 43 Try.underlying44 (cells16 l3 HL3.out) ?_; rw [HS3.out])
      refine (QC.out _).mono ?_
      rintro e w4 ⟨rfl, hq⟩
      have hb4 := HB3.out.1.below hq HB3.out.1.lt
      have hz4 := HB3.out.2.1.below hq HB3.out.2.1.lt
      have hw4 := HB3.out.2.2.trans (hq.mono HB3.out.2.2.size)
      clear hq QC
      go_upto_region 8 with (refine wpList_store_blk rfl 44 (.tmp 1) (.tmp 15) rfl w.heap.size (l4.map u32v) rfl (by rw [HS4.out]; rfl) 44 (l3.map u32v) hb4 (cells16 l4 HL4.out) (by rw [List.length_map, List.length_map, HL4.out, HL3.out]) (u32v_one _) ?_; intro x4 hbx hgx)
      try simp only [Act.put]
      have HB4 := Lib.hid (show Blk x4 w.heap.size 44 (l4.map u32v) ∧ Blk x4 (w.heap.size + 1) 44 z16 ∧ Below w.heap.size w x4 from ⟨hbx, hz4.grown hgx (by simp), below_blk hw4 hgx (Nat.le_refl _)⟩)
      clear hb4 hz4 hw4 hbx hgx HB3
      obtain ⟨l5, h5⟩ : ∃ l5, quarterW l4 0 5 10 15 = l5 := ⟨_, rfl⟩
      obtain ⟨s5, hs⟩ : ∃ s5, (l5.map u32v).toArray = s5 := ⟨_, rfl⟩
      have HL5 := Lib.hid (show l5.length = 16 by rw [← h5, quarterW_length]; exact HL4.out)
      have QC := Lib.hid (refQ_at (l := l4) HL4.out 0 5 10 15 0 5 10 15 rfl rfl rfl rfl (by omega) (by omega) (by omega) (by omega) h5 HS4.out hs)
      have E5 := Lib.hid h5
      have HS5 := Lib.hid hs
      clear h5 hs
      go_wp2_with (refine wpList_load_blk rfl 44 (.tmp 1) rfl w.heap.size rfl 44 (l4.map u32v) HB4.out.1 16 43 Try.underlying44 (cells16 l4 HL4.out) ?_; rw [HS4.out])
      refine (QC.out _).mono ?_
      rintro e w5 ⟨rfl, hq⟩
      have hb5 := HB4.out.1.below hq HB4.out.1.lt
      have hz5 := HB4.out.2.1.below hq HB4.out.2.1.lt
      have hw5 := HB4.out.2.2.trans (hq.mono HB4.out.2.2.size)
      clear hq QC
      go_upto_region 9 with (refine wpList_store_blk rfl 44 (.tmp 1) (.tmp 17) rfl w.heap.size (l5.map u32v) rfl (by rw [HS5.out]; rfl) 44 (l4.map u32v) hb5 (cells16 l5 HL5.out) (by rw [List.length_map, List.length_map, HL5.out, HL4.out]) (u32v_one _) ?_; intro x5 hbx hgx)
      try simp only [Act.put]
      have HB5 := Lib.hid (show Blk x5 w.heap.size 44 (l5.map u32v) ∧ Blk x5 (w.heap.size + 1) 44 z16 ∧ Below w.heap.size w x5 from ⟨hbx, hz5.grown hgx (by simp), below_blk hw5 hgx (Nat.le_refl _)⟩)
      clear hb5 hz5 hw5 hbx hgx HB4
      obtain ⟨l6, h6⟩ : ∃ l6, quarterW l5 1 6 11 12 = l6 := ⟨_, rfl⟩
      obtain ⟨s6, hs⟩ : ∃ s6, (l6.map u32v).toArray = s6 := ⟨_, rfl⟩
      have HL6 := Lib.hid (show l6.length = 16 by rw [← h6, quarterW_length]; exact HL5.out)
      have QC := Lib.hid (refQ_at (l := l5) HL5.out 1 6 11 12 1 6 11 12 rfl rfl rfl rfl (by omega) (by omega) (by omega) (by omega) h6 HS5.out hs)
      have E6 := Lib.hid h6
      have HS6 := Lib.hid hs
      clear h6 hs
      go_wp2_with (refine wpList_load_blk rfl 44 (.tmp 1) rfl w.heap.size rfl 44 (l5.map u32v) HB5.out.1 16 43 Try.underlying44 (cells16 l5 HL5.out) ?_; rw [HS5.out])
      refine (QC.out _).mono ?_
      rintro e w6 ⟨rfl, hq⟩
      have hb6 := HB5.out.1.below hq HB5.out.1.lt
      have hz6 := HB5.out.2.1.below hq HB5.out.2.1.lt
      have hw6 := HB5.out.2.2.trans (hq.mono HB5.out.2.2.size)
      clear hq QC
      go_upto_region 10 with (refine wpList_store_blk rfl 44 (.tmp 1) (.tmp 19) rfl w.heap.size (l6.map u32v) rfl (by rw [HS6.out]; rfl) 44 (l5.map u32v) hb6 (cells16 l6 HL6.out) (by rw [List.length_map, List.length_map, HL6.out, HL5.out]) (u32v_one _) ?_; intro x6 hbx hgx)
      try simp only [Act.put]
      have HB6 := Lib.hid (show Blk x6 w.heap.size 44 (l6.map u32v) ∧ Blk x6 (w.heap.size + 1) 44 z16 ∧ Below w.heap.size w x6 from ⟨hbx, hz6.grown hgx (by simp), below_blk hw6 hgx (Nat.le_refl _)⟩)
      clear hb6 hz6 hw6 hbx hgx HB5
      obtain ⟨l7, h7⟩ : ∃ l7, quarterW l6 2 7 8 13 = l7 := ⟨_, rfl⟩
      obtain ⟨s7, hs⟩ : ∃ s7, (l7.map u32v).toArray = s7 := ⟨_, rfl⟩
      have HL7 := Lib.hid (show l7.length = 16 by rw [← h7, quarterW_length]; exact HL6.out)
      have QC := Lib.hid (refQ_at (l := l6) HL6.out 2 7 8 13 2 7 8 13 rfl rfl rfl rfl (by omega) (by omega) (by omega) (by omega) h7 HS6.out hs)
      have E7 := Lib.hid h7
      have HS7 := Lib.hid hs
      clear h7 hs
      go_wp2_with (refine wpList_load_blk rfl 44 (.tmp 1) rfl w.heap.size rfl 44 (l6.map u32v) HB6.out.1 16 43 Try.underlying44 (cells16 l6 HL6.out) ?_; rw [HS6.out])
      refine (QC.out _).mono ?_
      rintro e w7 ⟨rfl, hq⟩
      have hb7 := HB6.out.1.below hq HB6.out.1.lt
      have hz7 := HB6.out.2.1.below hq HB6.out.2.1.lt
      have hw7 := HB6.out.2.2.trans (hq.mono HB6.out.2.2.size)
      clear hq QC
      go_upto_region 11 with (refine wpList_store_blk rfl 44 (.tmp 1) (.tmp 21) rfl w.heap.size (l7.map u32v) rfl (by rw [HS7.out]; rfl) 44 (l6.map u32v) hb7 (cells16 l7 HL7.out) (by rw [List.length_map, List.length_map, HL7.out, HL6.out]) (u32v_one _) ?_; intro x7 hbx hgx)
      try simp only [Act.put]
      have HB7 := Lib.hid (show Blk x7 w.heap.size 44 (l7.map u32v) ∧ Blk x7 (w.heap.size + 1) 44 z16 ∧ Below w.heap.size w x7 from ⟨hbx, hz7.grown hgx (by simp), below_blk hw7 hgx (Nat.le_refl _)⟩)
      clear hb7 hz7 hw7 hbx hgx HB6
      obtain ⟨l8, h8⟩ : ∃ l8, quarterW l7 3 4 9 14 = l8 := ⟨_, rfl⟩
      obtain ⟨s8, hs⟩ : ∃ s8, (l8.map u32v).toArray = s8 := ⟨_, rfl⟩
      have HL8 := Lib.hid (show l8.length = 16 by rw [← h8, quarterW_length]; exact HL7.out)
      have QC := Lib.hid (refQ_at (l := l7) HL7.out 3 4 9 14 3 4 9 14 rfl rfl rfl rfl (by omega) (by omega) (by omega) (by omega) h8 HS7.out hs)
      have E8 := Lib.hid h8
      have HS8 := Lib.hid hs
      clear h8 hs
      go_wp2_with (refine wpList_load_blk rfl 44 (.tmp 1) rfl w.heap.size rfl 44 (l7.map u32v) HB7.out.1 16 43 Try.underlying44 (cells16 l7 HL7.out) ?_; rw [HS7.out])
      refine (QC.out _).mono ?_
      rintro e w8 ⟨rfl, hq⟩
      have hb8 := HB7.out.1.below hq HB7.out.1.lt
      have hz8 := HB7.out.2.1.below hq HB7.out.2.1.lt
      have hw8 := HB7.out.2.2.trans (hq.mono HB7.out.2.2.size)
      clear hq QC
      go_upto_region 3 with (refine wpList_store_blk rfl 44 (.tmp 1) (.tmp 23) rfl w.heap.size (l8.map u32v) rfl (by rw [HS8.out]; rfl) 44 (l7.map u32v) hb8 (cells16 l8 HL8.out) (by rw [List.length_map, List.length_map, HL8.out, HL7.out]) (u32v_one _) ?_; intro x8 hbx hgx)
      try simp only [Act.put]
      have HB8 := Lib.hid (show Blk x8 w.heap.size 44 (l8.map u32v) ∧ Blk x8 (w.heap.size + 1) 44 z16 ∧ Below w.heap.size w x8 from ⟨hbx, hz8.grown hgx (by simp), below_blk hw8 hgx (Nat.le_refl _)⟩)
      clear hb8 hz8 hw8 hbx hgx HB7
      go_wp2_with fail
      go_roundw
      case rel =>
        refine ⟨j + 1, by omega, by go_num, ?_, HB8.out.2.1, HB8.out.2.2⟩
        have : coreW (j + 1) l = l8 := by rw [← E8.out, ← E7.out, ← E6.out, ← E5.out, ← E4.out, ← E3.out, ← E2.out, ← E1.out, ← E0.out]; rfl
        rw [this]
        exact HB8.out.1
      case measure => simp [intOf]; omega
    · obtain rfl : j = 10 := by omega
      rw [HLZ.out] at hblk
      have HLz := Lib.hid (show lz.length = 16 by rw [← HLZ.out, coreW_length]; exact HL.out)
      have HB := Lib.hid (And.intro hblk (And.intro hz hbel))
      obtain ⟨cz, hcz⟩ : ∃ cz, (lz.map u32v).toArray = cz := ⟨_, rfl⟩
      have HCZ := Lib.hid hcz
      clear hblk hz hbel hcz
      rw [show ((10 : Nat) : Int) = 10 from rfl]
      go_wp2_with (first | (refine wpList_load_blk rfl 44 (.tmp 1) rfl w.heap.size rfl 44 (lz.map u32v) HB.out.1 16 43 Try.underlying44 (cells16 lz HLz.out) ?_; rw [HCZ.out]) | (refine wpList_store_blk rfl 44 (.tmp 2) (.tmp 24) rfl (w.heap.size + 1) (lz.map u32v) rfl (by show Value.agg cz = _; rw [HCZ.out]) 44 z16 HB.out.2.1 (cells16 lz HLz.out) (by rw [List.length_map, HLz.out]; rfl) (u32v_one _) ?_; intro w9 hb9 hg9))
      exact bodyPost_ret (results_blk rfl _ _ (w.heap.size + 1) 44 (lz.map u32v) 16 43 rfl hb9 Try.underlying44 (cells16 lz HLz.out)) rfl ⟨rfl, below_blk HB.out.2.2 hg9 (by omega)⟩
end Go.Proofs.Ytkbefhmgcodpaaa
namespace Go.Proofs.Ytkbefhmgcodpaaa
open Go.RowKit

set_option maxRecDepth 100000 in
theorem readRefLittle_any (B : Nat) (A : Option Addr) (n cap : Nat) (l : List UInt8) (hn : n ≤ 1000000) (w : World) (hr : Rd w B A n l) :
    Calls Try.prog 31 #[.slice A n cap] w fun e w' => e = .returned (.int .u64 (numL (l.take 8) : Nat)) ∧ w = w' := by
  have hl : l.length = n := hr.1
  have HR := Lib.hid hr
  have HL := Lib.hid hl
  clear hr hl
  go_enter Try.func31, Try.ntmps31
  go_wp2
  go_loop [3, 4] (fun v i => ∃ j : Nat, j ≤ n ∧ i = .int .i64 ((j : Int) - 1) ∧ v = .int .u64 (numL (l.drop j) % 18446744073709551616 : Nat)) (fun _ i => (intOf i + 1).toNat)
  case atStart => exact ⟨n, by omega, rfl, by rw [List.drop_of_length_le (by have := HL.out; omega)]; rfl⟩
  case round =>
    obtain ⟨j, hj, rfl, rfl⟩ := hrel
    by_cases hlt : 0 < j
    · obtain ⟨j, rfl⟩ : ∃ i, j = i + 1 := ⟨j - 1, by omega⟩
      obtain ⟨b, off, rfl, _, hc⟩ := HR.out.at_ (by omega)
      have hlj : j < l.length := by have := HL.out; omega
      have hc1 := hc j hlj
      clear hc
      go_wp2
      go_round
      case rel => exact ⟨j, by omega, by go_num, by rw [or64_big, numL_drop l j hlj, Nat.mul_comm, Nat.add_comm]⟩
      case measure => simp [intOf]
    · obtain rfl : j = 0 := by omega
      go_wp2
      go_ret
      exact ⟨ret_int (by rw [← numL_take_mod]; simp), rfl⟩

set_option maxRecDepth 100000 in
theorem refLittle_any (n : Nat) (_hn : n < 18446744073709551616) (k : Nat) (h1 : 1 ≤ k) (h8 : k ≤ 8) (w : World) :
    Calls Try.prog 20 #[.int .u64 n, .int .i64 k] w fun e w' => ∃ A c, e = .returned (.slice A k c) ∧ w'.ownsRow w.heap.size 5 1 (.slice A k c) k ((littleL n k).map u8v) ∧ Below w.heap.size w w' := by
  obtain ⟨i0, hi, hz0, hz1, hz2⟩ := info_parts Try.info5
  go_enter Try.func20, Try.ntmps20
  go_wp2
  go_loopw [5, 6] (fun v i wr => ∃ j : Nat, j ≤ k ∧ i = .int .i64 j ∧ wr.ownsRow w.heap.size 5 1 v j ((littleL n j).map u8v) ∧ Below w.heap.size w wr) (fun _ i _ => k - (intOf i).toNat)
  case atStart => exact ⟨0, by omega, rfl, World.ownsRow_nil _ _ _ _, Below.refl _ _⟩
  case round =>
    obtain ⟨j, hj, rfl, hown, hb⟩ := hrel
    by_cases hlt : j < k
    · have hsz := hb.size
      have HB := Lib.hid (byteOf_cast n j)
      go_wp2_with (at_builtin; refine wpList_append_bytes _ rfl (.tmp 18) (.tmp 24) 27 rfl w.heap.size 5 i0 (.int .u8 0) Try.underlying27 hi hz0 hz1 hz2 rfl u5 j _ rfl (hown.alloc _) ⟨wr.heap.size, 0, none⟩ 1 1 [.int .u8 ((n : Int) / 2 ^ (8 * j) % 256)] rfl rfl (cell_one_new _ _ _) (by rw [← HB.out]; exact one_u8 _) (by omega) (by simp; omega) ?_; intro v' w' hown' hg')
      have HO := Lib.hid hown'
      clear hown'
      go_wp2
      go_roundw
      case rel =>
        refine ⟨j + 1, by omega, by go_num, ?_, (hb.alloc (by omega) _).grown hg' (by simp; omega) (own_from hown)⟩
        have h := HO.out
        rw [littleL_succ, List.map_append]
        rw [← HB.out] at h
        exact h
      case measure => simp [intOf]; omega
    · obtain rfl : j = k := by omega
      obtain ⟨A, c, rfl, _⟩ := own_slice hown
      have HO := Lib.hid hown
      clear hown
      go_wp2
      go_ret
      exact ⟨A, c, rfl, HO.out, hb⟩

theorem own_some {w : World} {base e n : Nat} {A : Option Addr} {c : Nat} {xs : List Value} (h : w.ownsRow base e 1 (.slice A n c) n xs) (hn : 0 < n) : ∃ g, A = some ⟨g, 0, none⟩ ∧ n ≤ c ∧ c ≤ maxLen := by
  rcases h.2 with ⟨_, h0⟩ | ⟨g, cap, cur, hv, _, _, hnc, hcm, _⟩
  · omega
  · simp only [Value.slice.injEq] at hv
    exact ⟨g, hv.1, by rw [hv.2.2]; exact hnc, by rw [hv.2.2]; exact hcm⟩
theorem refLit_some (n : Nat) (hn : n < 18446744073709551616) (w : World) :
    Calls Try.prog 20 #[.int .u64 n, .int .i64 4] w fun e w' => ∃ g c, e = .returned (.slice (some ⟨g, 0, none⟩) 4 c) ∧ w'.ownsRow w.heap.size 5 1 (.slice (some ⟨g, 0, none⟩) 4 c) 4 ((littleL n 4).map u8v) ∧ Below w.heap.size w w' := by
  refine (refLittle_any n hn 4 (by omega) (by omega) w).mono ?_
  rintro e w' ⟨A, c, rfl, ho, hb⟩
  obtain ⟨g, rfl, _, _⟩ := own_some ho (by omega)
  exact ⟨g, c, rfl, ho, hb⟩
end Go.Proofs.Ytkbefhmgcodpaaa
namespace Go.Proofs.Ytkbefhmgcodpaaa
open Go.RowKit

set_option maxRecDepth 100000 in
theorem little_any (n : Nat) (_hn : n < 18446744073709551616) (k : Nat) (h1 : 1 ≤ k) (h8 : k ≤ 8) (w : World) :
    Calls Try.prog 29 #[.int .u64 n, .int .i64 k] w fun e w' => e = .returned (.slice (some ⟨w.heap.size, 0, none⟩) k k) ∧ w'.ownsRow w.heap.size 5 1 (.slice (some ⟨w.heap.size, 0, none⟩) k k) k ((littleL n k).map u8v) ∧ Below w.heap.size w w' := by
  obtain ⟨i0, hi, hz0, hz1, hz2⟩ := info_parts Try.info5
  go_enter Try.func29, Try.ntmps29
  go_wp2_with (refine wpList_make_full _ rfl (.tmp 13) (.tmp 13) 27 rfl w.heap.size 5 i0 (.int .u8 0) 1 Try.underlying27 hi hz0 hz1 .i64 .i64 k k k rfl rfl rfl rfl (by rw [hz2]; omega) (by unfold maxLen; omega) (Nat.le_refl _) ?_; intro w1 hown1 hg1)
  go_loopw [16, 6] (fun i _ wr => ∃ j : Nat, j ≤ k ∧ i = .int .i64 j ∧ wr.ownsRow w.heap.size 5 1 (.slice (some ⟨w.heap.size, 0, none⟩) k k) k ((littleRow n k j).map u8v) ∧ Below w.heap.size w wr) (fun i _ _ => k - (intOf i).toNat)
  case atStart =>
    refine ⟨0, by omega, rfl, ?_, (Below.refl _ _).grown hg1 (Nat.le_refl _) (by simp)⟩
    rw [littleRow_zero, List.map_replicate]
    rw [show (Value.int IntKind.u8 0).cells = #[.int .u8 0] from rfl, toList_madeCells_one, Nat.mul_one] at hown1
    exact hown1
  case round =>
    obtain ⟨j, hj, rfl, hown, hb⟩ := hrel
    by_cases hlt : j < k
    · have hfz := hown.frozenAt j
      have hcl : ∃ u, wr.cell? ⟨w.heap.size, j, none⟩ = some u := by
        rw [hown.cellAt j (by omega)]
        exact ⟨_, List.getElem?_eq_getElem (by rw [hown.1]; omega)⟩
      obtain ⟨u, hcl⟩ := hcl
      obtain ⟨hs1, hs2⟩ := hown.stored j (u8v (byteOf n j))
      have HS := Lib.hid hs1
      clear hs1
      go_wp2
      go_roundw
      case rel =>
        refine ⟨j + 1, by omega, by go_num, ?_, ?_⟩
        · have h := HS.out
          rw [← List.map_set, littleRow_set n k j hlt] at h
          simp only [u8v, byteOf_cast] at h
          exact h
        · exact hb.setCell (Nat.le_refl _) _
      case measure => simp [intOf]; omega
    · obtain rfl : j = k := by omega
      rw [littleRow_end] at hown
      go_wp2
      go_ret
      exact ⟨rfl, hown, hb⟩

set_option maxRecDepth 100000 in
/-- any other size: nothing -/
theorem little_none (n k : Int) (h : k < 1 ∨ 8 < k) (w : World) :
    Calls Try.prog 29 #[.int .u64 n, .int .i64 k] w fun e w' => e = .returned (.slice none 0 0) ∧ w = w' := by
  rcases h with h | h
  · go_enter Try.func29, Try.ntmps29
    go_wp2
    go_ret
    exact ⟨rfl, rfl⟩
  · have h' : ¬ k < 1 := by omega
    go_enter Try.func29, Try.ntmps29
    go_wp2
    go_ret
    exact ⟨rfl, rfl⟩
end Go.Proofs.Ytkbefhmgcodpaaa
