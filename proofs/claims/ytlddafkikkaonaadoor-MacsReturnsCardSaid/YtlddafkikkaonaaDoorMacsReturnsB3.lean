/-
  The contract of chacha.readWords: words out of bytes, four for each, the least significant one first. The contract of chacha.initialState: the constants, the words of the key, the counter, the words of the nonce. The mathematics of Poly1305: numbers of seventeen digits, their sums, products and remainders, and the authenticator itself; no function of the program is named here. The mathematics of Poly1305, second half: the remainder, the sum, the product, the authenticator. The mathematics of Poly1305, third part: the least remainder, digits and bytes, the authenticator. The mathematics of ChaCha20-Poly1305: what is sealed and what opening gives. The contract of the reference's Join: the parts one after the other. Words of layer 4: arrays of bytes of several lengths, four parts joined by the reference, and what is asked of the layers below. The mathematics of XChaCha20-Poly1305: the derived key, and sealing with a long nonce. What is asked of Reply and OpenReply of layer 12, by a function's number (the program's or the reference's). A cookie is recovered from its reply; the codes of a message are written into its fields. No function of the program is named here. A tag is equal to itself. A field of a message as cells. A message is found equal to itself. The zero values of the two great messages, as the loader of a great program names them. Bytes in memory of the call, of a row, and with a wider range. MacsReturns returns true for every input, and changes nothing that was there: the walk. What is asked of an encoder whose bytes lie in memory of its own. No statement is proved here.
-/
import Derived.Maps.AppendAt
import Derived.Outline
import Derived.Test.YtlddafkikkaonaaDoorMacsReturnsB2
namespace Go.Proofs.YtlddafkikkaonaaDoor
open Go.RowKit

theorem readWords_any (G off n c kb m : Nat) (t tk : TypeId) (l : List UInt32) (bs : List UInt8) (hl : l.length = 16) (hoff : off + n ≤ 16) (hc : n ≤ c) (hb : bs.length = m) (hm : 4 * n ≤ m) (hm2 : m ≤ 1000) (hkG : G ≠ kb) (w : World) (hG : Blk w G t (l.map u32v)) (hK : Blk w kb tk (bs.map u8v)) :
    Calls Tryd.prog 108 #[.slice (some ⟨G, off, none⟩) n c, .slice (some ⟨kb, 0, none⟩) m m] w fun e w' => e = .returned (.tuple #[]) ∧ Blk w' G t ((fillW l off (wordL bs) n).map u32v) ∧ w.grownBy w' (some G) := by
  have HG := Lib.hid hG
  have HK := Lib.hid hK
  have HL := Lib.hid hl
  have HB := Lib.hid hb
  have HKG := Lib.hid hkG
  clear hG hK hl hb hkG
  go_enter Tryd.func108, Tryd.ntmps108
  go_wp2
  go_loopw [7, 4] (fun i _ wr => ∃ j : Nat, j ≤ n ∧ i = .int .i64 j ∧ Blk wr G t ((fillW l off (wordL bs) j).map u32v) ∧ Blk wr kb tk (bs.map u8v) ∧ w.grownBy wr (some G)) (fun i _ _ => n - (intOf i).toNat)
  case atStart => exact ⟨0, by omega, rfl, HG.out, HK.out, World.grownBy.refl _ _⟩
  case round =>
    obtain ⟨j, hj, rfl, hblk, hk, hg⟩ := hrel
    by_cases hlt : j < n
    · have rd := hk.rd (4 * j) 4 (by have := HB.out; omega)
      have RL := Lib.hid (readLittle_any _ _ 4 (m - 4 * j) _ (by omega) wr rd)
      have hlen : (fillW l off (wordL bs) j).length = 16 := by rw [fillW_length]; exact HL.out
      have fx := hblk.word (off + j) (by omega)
      have zx := hblk.frozen (off + j)
      have WW := Lib.hid (word_wrap bs j)
      have HN := Lib.hid (And.intro (hblk.setWord (off + j) (wordL bs j)) (And.intro (hk.far (p := ⟨G, off + j, none⟩) HKG.out.symm (.int .u32 ((wordL bs j).toNat : Int))) (grown_set hg (off + j) (.int .u32 ((wordL bs j).toNat : Int)))))
      clear hblk hk hg rd hlen
      go_wp2_with fail
      rw [show (j + 1) * 4 - j * 4 = 4 by omega, Nat.mul_comm j 4]
      refine RL.out.mono ?_
      rintro e w1 ⟨rfl, rfl⟩
      clear RL
      obtain ⟨N, hN⟩ : ∃ N, numL (((bs.drop (4 * j)).take 4).take 8) = N := ⟨_, rfl⟩
      have WN := WW.out
      rw [hN] at WN ⊢
      clear hN WW
      go_wp2
      go_roundw
      case rel =>
        exact ⟨j + 1, by omega, by go_num, HN.out.1, HN.out.2.1, HN.out.2.2⟩
      case measure => simp [intOf]; omega
    · obtain rfl : j = n := by omega
      have HN := Lib.hid (And.intro hblk hg)
      clear hblk hg hk
      go_wp2
      refine bodyPost_end (results_none rfl _ _ _) rfl ⟨rfl, HN.out.1, HN.out.2⟩

def baseW : List UInt32 := [0x61707865, 0x3320646e, 0x79622d32, 0x6b206574, 0, 0, 0, 0, 0, 0, 0, 0, 0, 0, 0, 0]
theorem base_map : (baseW.map u32v).toArray = #[.int .u32 1634760805, .int .u32 857760878, .int .u32 2036477234, .int .u32 1797285236, .int .u32 0, .int .u32 0, .int .u32 0, .int .u32 0, .int .u32 0, .int .u32 0, .int .u32 0, .int .u32 0, .int .u32 0, .int .u32 0, .int .u32 0, .int .u32 0] := by
  simp [baseW, u32v]
theorem state_fill (k : List UInt8) (c : UInt32) (n : List UInt8) : fillW ((fillW baseW 4 (wordL k) 8).set 12 c) 13 (wordL n) 3 = stateW k c n := by
  simp [fillW, baseW, stateW, List.range_succ]
theorem undrew {w w' : World} {row : Option Nat} (h : w.drew.grownBy w' row) : w.grownBy w' row := ⟨h.os, h.tape, h.output, h.size, h.block⟩
theorem z16_arr : z16.toArray = #[.int .u32 0, .int .u32 0, .int .u32 0, .int .u32 0, .int .u32 0, .int .u32 0, .int .u32 0, .int .u32 0, .int .u32 0, .int .u32 0, .int .u32 0, .int .u32 0, .int .u32 0, .int .u32 0, .int .u32 0, .int .u32 0] := rfl
theorem cells16 (l : List UInt32) (h : l.length = 16) : (Tryd.prog.info? 120).map (·.size) = some (l.map u32v).length := by
  rw [List.length_map, h]; kernel_rfl

set_option maxRecDepth 100000 in
theorem state_any (k n : List UInt8) (hk : k.length = 32) (hn : n.length = 12) (c : UInt32) (w : World) :
    Calls Tryd.prog 98 #[.agg (k.map u8v).toArray, .int .u32 (c.toNat : Int), .agg (n.map u8v).toArray] w fun e w' => e = .returned (.agg ((stateW k c n).map u32v).toArray) ∧ Below w.heap.size w w' := by
  obtain ⟨ck, hck⟩ : ∃ ck, (k.map u8v).toArray = ck := ⟨_, rfl⟩
  obtain ⟨cn, hcn⟩ : ∃ cn, (n.map u8v).toArray = cn := ⟨_, rfl⟩
  rw [hck, hcn]
  have HK0 := Lib.hid (show Blk (w.alloc (.cells ck 23)) w.heap.size 23 (k.map u8v) by rw [← hck]; exact Blk.new w _ _)
  have HN0 := Lib.hid (show Blk ((w.alloc (.cells ck 23)).alloc (.cells cn 102)) (w.heap.size + 1) 102 (n.map u8v) by rw [← hcn]; exact Blk.new' _ (by simp) _ _)
  have HK := Lib.hid hk
  have HN := Lib.hid hn
  have HBM := Lib.hid base_map
  clear hk hn hck hcn
  go_enter Tryd.func98, Tryd.ntmps98
  go_upto_region 1 with fail
  have hk1 := (HK0.out.alloc (.cells cn 102)).alloc (.cells z16.toArray 120)
  have hn1 := HN0.out.alloc (.cells z16.toArray 120)
  have hz1 : Blk (((w.alloc (.cells ck 23)).alloc (.cells cn 102)).alloc (.cells z16.toArray 120)) (w.heap.size + 2) 120 z16 := Blk.new' _ (by simp) _ _
  have hbel1 : Below w.heap.size w (((w.alloc (.cells ck 23)).alloc (.cells cn 102)).alloc (.cells z16.toArray 120)) := (((Below.refl _ _).alloc (Nat.le_refl _) _).alloc (by simp) _).alloc (by simp; omega) _
  have hs1 : (((w.alloc (.cells ck 23)).alloc (.cells cn 102)).alloc (.cells z16.toArray 120)).heap.size = w.heap.size + 3 := by simp
  clear HK0 HN0
  rw [z16_arr] at hk1 hn1 hz1 hbel1 hs1
  generalize (((w.alloc (.cells ck 23)).alloc (.cells cn 102)).alloc (.cells #[.int .u32 0, .int .u32 0, .int .u32 0, .int .u32 0, .int .u32 0, .int .u32 0, .int .u32 0, .int .u32 0, .int .u32 0, .int .u32 0, .int .u32 0, .int .u32 0, .int .u32 0, .int .u32 0, .int .u32 0, .int .u32 0] 120)) = W1 at hk1 hn1 hz1 hbel1 hs1 ⊢
  rw [show w.heap.size + 1 + 1 = w.heap.size + 2 from rfl]
  go_upto_region 2 with (refine wpList_store_blk rfl 120 (.tmp 7) (.tmp 8) rfl (w.heap.size + 3) (baseW.map u32v) rfl (by rw [HBM.out]; rfl) 120 z16 (Blk.new' W1 hs1.symm 120 z16) (cells16 baseW rfl) rfl (u32v_one _) ?_; intro w2 hb2 hg2)
  have B2 := Lib.hid (show Blk w2 (w.heap.size + 3) 120 (baseW.map u32v) ∧ Blk w2 w.heap.size 23 (k.map u8v) ∧ Blk w2 (w.heap.size + 1) 102 (n.map u8v) ∧ Blk w2 (w.heap.size + 2) 120 z16 ∧ Below w.heap.size w w2 by
    refine ⟨hb2, (hk1.alloc _).grown hg2 (by simp), (hn1.alloc _).grown hg2 (by simp), (hz1.alloc _).grown hg2 (by simp), Below.grown (hbel1.alloc (by omega) _) hg2 (by simp; omega) (by intro k hk; injection hk with hk; omega)⟩)
  clear hs1 hk1 hn1 hz1 hbel1 hg2 hb2
  simp only [Act.put]
  go_cut [] (fun wx => Blk wx (w.heap.size + 3) 120 ((fillW baseW 4 (wordL k) 8).map u32v) ∧ Blk wx w.heap.size 23 (k.map u8v) ∧ Blk wx (w.heap.size + 1) 102 (n.map u8v) ∧ Blk wx (w.heap.size + 2) 120 z16 ∧ Below w.heap.size w wx)
  case first =>
    have RW := Lib.hid (fun w' : World => fun h1 h2 => readWords_any (w.heap.size + 3) 4 8 12 w.heap.size 32 120 23 baseW k rfl (by omega) (by omega) HK.out (by omega) (by omega) (by omega) w' h1 h2)
    have RR := Lib.hid (fun (w4 : World) (hb : Blk w4 (w.heap.size + 3) 120 ((fillW baseW 4 (wordL k) 8).map u32v)) (hg : w2.grownBy w4 (some (w.heap.size + 3))) => show Blk w4 (w.heap.size + 3) 120 ((fillW baseW 4 (wordL k) 8).map u32v) ∧ Blk w4 w.heap.size 23 (k.map u8v) ∧ Blk w4 (w.heap.size + 1) 102 (n.map u8v) ∧ Blk w4 (w.heap.size + 2) 120 z16 ∧ Below w.heap.size w w4 from ⟨hb, B2.out.2.1.grown hg (by simp), B2.out.2.2.1.grown hg (by simp), B2.out.2.2.2.1.grown hg (by simp), Below.grown B2.out.2.2.2.2 hg B2.out.2.2.2.2.size (by intro k hk; injection hk with hk; omega)⟩)
    go_region_with ((go_at_call 108; refine (RW.out w2.drew B2.out.1.drew B2.out.2.1.drew).mono ?_; rintro e w4 ⟨rfl, hb4, hg4⟩))
    all_goals (go_wp2; go_meet; exact RR.out _ hb4 (undrew hg4))
  case rest =>
    clear B2 HBM
    have B3 := Lib.hid hcut
    clear hcut
    have h16 : (fillW baseW 4 (wordL k) 8).length = 16 := by rw [fillW_length]; rfl
    have fx := B3.out.1.word 12 (by omega)
    have zx := B3.out.1.frozen 12
    have B4 := Lib.hid (show Blk (wc.setCell ⟨w.heap.size + 3, 12, none⟩ (.int .u32 (c.toNat : Int))) (w.heap.size + 3) 120 (((fillW baseW 4 (wordL k) 8).set 12 c).map u32v) ∧ Blk (wc.setCell ⟨w.heap.size + 3, 12, none⟩ (.int .u32 (c.toNat : Int))) (w.heap.size + 1) 102 (n.map u8v) ∧ Blk (wc.setCell ⟨w.heap.size + 3, 12, none⟩ (.int .u32 (c.toNat : Int))) (w.heap.size + 2) 120 z16 ∧ Below w.heap.size w (wc.setCell ⟨w.heap.size + 3, 12, none⟩ (.int .u32 (c.toNat : Int))) from ⟨B3.out.1.setWord 12 c, B3.out.2.2.1.far (by simp) _, B3.out.2.2.2.1.far (by simp) _, B3.out.2.2.2.2.setCell (by dsimp only; omega) _⟩)
    have H16 := Lib.hid (show ((fillW baseW 4 (wordL k) 8).set 12 c).length = 16 by rw [List.length_set]; exact h16)
    clear h16
    go_upto_region 4 with fail
    clear fx zx B3
    generalize wc.setCell ⟨w.heap.size + 3, 12, none⟩ (.int .u32 (c.toNat : Int)) = w5 at B4 ⊢
    go_cut [] (fun wx => Blk wx (w.heap.size + 3) 120 ((fillW ((fillW baseW 4 (wordL k) 8).set 12 c) 13 (wordL n) 3).map u32v) ∧ Blk wx (w.heap.size + 2) 120 z16 ∧ Below w.heap.size w wx)
    case first =>
      have RW := Lib.hid (fun w' : World => fun h1 h2 => readWords_any (w.heap.size + 3) 13 3 3 (w.heap.size + 1) 12 120 102 ((fillW baseW 4 (wordL k) 8).set 12 c) n H16.out (by omega) (by omega) HN.out (by omega) (by omega) (by omega) w' h1 h2)
      have RR := Lib.hid (fun (w4 : World) (hb : Blk w4 (w.heap.size + 3) 120 ((fillW ((fillW baseW 4 (wordL k) 8).set 12 c) 13 (wordL n) 3).map u32v)) (hg : w5.grownBy w4 (some (w.heap.size + 3))) => show Blk w4 (w.heap.size + 3) 120 ((fillW ((fillW baseW 4 (wordL k) 8).set 12 c) 13 (wordL n) 3).map u32v) ∧ Blk w4 (w.heap.size + 2) 120 z16 ∧ Below w.heap.size w w4 from ⟨hb, B4.out.2.2.1.grown hg (by simp), Below.grown B4.out.2.2.2 hg B4.out.2.2.2.size (by intro k hk; injection hk with hk; omega)⟩)
      go_region_with ((go_at_call 108; refine (RW.out w5.drew B4.out.1.drew B4.out.2.1.drew).mono ?_; rintro e w4 ⟨rfl, hb4, hg4⟩))
      all_goals (go_wp2; go_meet; exact RR.out _ hb4 (undrew hg4))
    case rest =>
      rw [state_fill] at hcut
      have HB := Lib.hid hcut
      clear hcut B4
      have HLz := Lib.hid (stateW_length k c n)
      obtain ⟨lz, hlz⟩ : ∃ lz, stateW k c n = lz := ⟨_, rfl⟩
      rw [hlz] at HB HLz
      have HSZ := Lib.hid hlz
      obtain ⟨cz, hcz⟩ : ∃ cz, (lz.map u32v).toArray = cz := ⟨_, rfl⟩
      have HCZ := Lib.hid hcz
      clear hcz hlz
      go_wp2_with (first | (refine wpList_load_blk rfl 120 (.tmp 7) rfl (w.heap.size + 3) rfl 120 (lz.map u32v) HB.out.1 16 31 Tryd.underlying120 (cells16 lz HLz.out) ?_; rw [HCZ.out]) | (refine wpList_store_blk rfl 120 (.tmp 6) (.tmp 17) rfl (w.heap.size + 2) (lz.map u32v) rfl (by show Value.agg cz = _; rw [HCZ.out]) 120 z16 HB.out.2.1 (cells16 lz HLz.out) (by rw [List.length_map, HLz.out]; rfl) (u32v_one _) ?_; intro w9 hb9 hg9))
      exact bodyPost_ret (results_blk rfl _ _ (w.heap.size + 2) 120 (lz.map u32v) 16 31 rfl hb9 Tryd.underlying120 (cells16 lz HLz.out)) rfl ⟨by rw [HSZ.out], below_blk HB.out.2.2 hg9 (by omega)⟩
end Go.Proofs.YtlddafkikkaonaaDoor
namespace Go.Proofs.YtlddafkikkaonaaDoor
open Go.RowKit

def primeP : Nat := 1361129467683753853853498429727072845819
def sumTo (f : Nat → Nat) : Nat → Nat
  | 0 => 0
  | n + 1 => sumTo f n + f n
theorem sumTo_congr {f g : Nat → Nat} : ∀ n, (∀ i, i < n → f i = g i) → sumTo f n = sumTo g n
  | 0, _ => rfl
  | n + 1, h => by rw [sumTo, sumTo, sumTo_congr n (fun i hi => h i (by omega)), h n (by omega)]
theorem sumTo_zero : ∀ n, sumTo (fun _ => 0) n = 0
  | 0 => rfl
  | n + 1 => by rw [sumTo, sumTo_zero n]
theorem sumTo_add (f g : Nat → Nat) : ∀ n, sumTo (fun i => f i + g i) n = sumTo f n + sumTo g n
  | 0 => rfl
  | n + 1 => by rw [sumTo, sumTo, sumTo, sumTo_add f g n]; omega
theorem sumTo_mul (f : Nat → Nat) (c : Nat) : ∀ n, sumTo (fun i => c * f i) n = c * sumTo f n
  | 0 => rfl
  | n + 1 => by rw [sumTo, sumTo, sumTo_mul f c n, Nat.mul_add]
theorem sumTo_set (f : Nat → Nat) (j x : Nat) : ∀ n, j < n → sumTo (fun i => if i = j then x else f i) n + f j = sumTo f n + x
  | 0, h => absurd h (by omega)
  | n + 1, h => by
    rw [sumTo, sumTo]
    by_cases e : j = n
    · subst e
      rw [if_pos rfl, sumTo_congr (g := f) j (fun i hi => if_neg (by omega))]
      omega
    · have := sumTo_set f j x n (by omega)
      rw [if_neg (by omega)]
      omega
/-- digit i -/
def dg (l : List Nat) (i : Nat) : Nat := l.getD i 0
theorem dg_set (l : List Nat) (j x i : Nat) (h : j < l.length) : dg (l.set j x) i = if i = j then x else dg l i := by
  unfold dg
  simp only [List.getD, List.getElem?_set]
  by_cases e : j = i
  · subst e
    simp [h]
  · rw [if_neg e, if_neg (fun e' => e e'.symm)]
/-- the number of the first n digits -/
def valTo (l : List Nat) (n : Nat) : Nat := sumTo (fun i => dg l i * 256 ^ i) n
def valN (l : List Nat) : Nat := valTo l 17
/-- digits below 256, the last one small -/
def tidy (l : List Nat) (t : Nat) : Prop := l.length = 17 ∧ (∀ i, i < 16 → dg l i < 256) ∧ dg l 16 ≤ t
theorem dg_high (l : List Nat) (i : Nat) (h : l.length ≤ i) : dg l i = 0 := by simp [dg, List.getD, h]
theorem tidy.mono {l : List Nat} {t t' : Nat} (h : tidy l t) (ht : t ≤ t') : tidy l t' := ⟨h.1, h.2.1, Nat.le_trans h.2.2 ht⟩
theorem sumTo_first (f : Nat → Nat) : ∀ n, sumTo f (n + 1) = f 0 + sumTo (fun i => f (i + 1)) n
  | 0 => by simp [sumTo]
  | n + 1 => by rw [sumTo, sumTo_first f n, sumTo]; omega
theorem numL_sum : ∀ (l : List UInt8) (n : Nat), l.length ≤ n → numL l = sumTo (fun i => (l.getD i 0).toNat * 256 ^ i) n
  | [], n, _ => by
    rw [numL, ← sumTo_zero n]
    exact sumTo_congr n fun i _ => by simp
  | b :: l, 0, h => absurd h (by simp)
  | b :: l, n + 1, h => by
    rw [numL, sumTo_first, numL_sum l n (by simpa using h), ← sumTo_mul]
    have e : ((b :: l).getD 0 0).toNat * 256 ^ 0 = b.toNat := by simp
    rw [e]
    congr 1
    refine sumTo_congr n fun i _ => ?_
    rw [List.getD_cons_succ, Nat.pow_succ, Nat.mul_comm (256 ^ i) 256, ← Nat.mul_assoc, ← Nat.mul_assoc, Nat.mul_comm 256]
theorem valN_bytes (ds : List Nat) (l : List UInt8) (hl : l.length ≤ 17) (h : ∀ i, i < 17 → dg ds i = (l.getD i 0).toNat) : valN ds = numL l := by
  rw [numL_sum l 17 hl]
  exact sumTo_congr 17 fun i hi => by rw [h i hi]
/-- the first half of the key, some bits of it struck -/
def clampD (k : List UInt8) (i : Nat) : Nat :=
  let b := (k.getD i 0).toNat
  if i = 3 ∨ i = 7 ∨ i = 11 ∨ i = 15 then b &&& 15 else if i = 4 ∨ i = 8 ∨ i = 12 then b &&& 252 else if i < 16 then b else 0
def rDig (k : List UInt8) : List Nat := (List.range 17).map (clampD k)
def rN (k : List UInt8) : Nat := valN (rDig k)
def sN (k : List UInt8) : Nat := numL ((k.drop 16).take 16)
def pieceN (data : List UInt8) (i : Nat) : Nat := numL ((data.drop (16 * i)).take 16) + 256 ^ ((data.drop (16 * i)).take 16).length
def accI (r : Nat) (data : List UInt8) : Nat → Nat
  | 0 => 0
  | i + 1 => (accI r data i + pieceN data i) * r % primeP
def tagN (k data : List UInt8) : Nat := accI (rN k) data ((data.length + 15) / 16) + sN k
def tagL (k data : List UInt8) : List UInt8 := littleL (tagN k data) 16
end Go.Proofs.YtlddafkikkaonaaDoor
namespace Go.Proofs.YtlddafkikkaonaaDoor
open Go.RowKit

/-- zero bytes up to a multiple of 16 -/
def padL (l : List UInt8) : List UInt8 := List.replicate ((16 - l.length % 16) % 16) 0
/-- the data of the tag -/
def macL (more c : List UInt8) : List UInt8 := more ++ padL more ++ (c ++ padL c) ++ (littleL more.length 8 ++ littleL c.length 8)
def oneK (k n : List UInt8) : List UInt8 := (blockL k 0 n).take 32
def sealT (k n c more : List UInt8) : List UInt8 := littleL (tagN (oneK k n) (macL more c)) 16
def sealL (k n p more : List UInt8) : List UInt8 := xorL k 1 n p ++ sealT k n (xorL k 1 n p) more
/-- what opening returns, and the error's number -/
def openL (k n s more : List UInt8) : List UInt8 × Nat :=
  if s.length < 16 then ([], 2)
  else if sealT k n (s.take (s.length - 16)) more = s.drop (s.length - 16) then (xorL k 1 n (s.take (s.length - 16)), 0)
  else ([], 6)
theorem sealT_length (k n c more : List UInt8) : (sealT k n c more).length = 16 := littleL_length _ _
theorem sealL_length (k n p more : List UInt8) : (sealL k n p more).length = p.length + 16 := by
  rw [sealL, List.length_append, sealT_length, xorL_length]
theorem open_seal (k n p more : List UInt8) : openL k n (sealL k n p more) more = (p, 0) := by
  have hl := sealL_length k n p more
  have h1 : (sealL k n p more).take ((sealL k n p more).length - 16) = xorL k 1 n p := by
    rw [hl, Nat.add_sub_cancel, sealL, List.take_left' (xorL_length k 1 n p)]
  have h2 : (sealL k n p more).drop ((sealL k n p more).length - 16) = sealT k n (xorL k 1 n p) more := by
    rw [hl, Nat.add_sub_cancel, sealL, List.drop_left' (xorL_length k 1 n p)]
  rw [openL, if_neg (by omega), h1, h2, if_pos rfl, xorL_xorL]
theorem seal_open (k n s more : List UInt8) (h : (openL k n s more).2 = 0) : sealL k n (openL k n s more).1 more = s := by
  unfold openL at h ⊢
  split at h
  · simp at h
  · rename_i h16
    rw [if_neg h16]
    split at h
    · rename_i ht
      rw [if_pos ht]
      show xorL k 1 n (xorL k 1 n (s.take (s.length - 16))) ++ sealT k n (xorL k 1 n (xorL k 1 n (s.take (s.length - 16)))) more = s
      rw [xorL_xorL, ht, List.take_append_drop]
    · simp at h
theorem flat_four : ∀ ws : List UInt32, (ws.flatMap fun x => littleL x.toNat 4).length = 4 * ws.length
  | [] => rfl
  | x :: ws => by rw [List.flatMap_cons, List.length_append, littleL_length, flat_four ws, List.length_cons]; omega
theorem blockL_len (k : List UInt8) (c : UInt32) (n : List UInt8) : (blockL k c n).length = 64 := by
  unfold blockL
  rw [flat_four, List.length_zipWith, coreW_length, stateW_length]
  rfl
theorem oneK_length (k n : List UInt8) : (oneK k n).length = 32 := by rw [oneK, List.length_take, blockL_len]; rfl
theorem padL_length (l : List UInt8) : (padL l).length ≤ 15 := by rw [padL, List.length_replicate]; omega
end Go.Proofs.YtlddafkikkaonaaDoor
namespace Go.Proofs.YtlddafkikkaonaaDoor
open Go.RowKit

end Go.Proofs.YtlddafkikkaonaaDoor
namespace Go.Proofs.YtlddafkikkaonaaDoor
open Go.RowKit

theorem ae_cellsN (l : List UInt8) (h : l.length = 12) : (Tryd.prog.info? 102).map (·.size) = some (l.map u8v).length := by
  rw [List.length_map, h]; kernel_rfl
theorem ae_cells64 (l : List UInt8) (h : l.length = 64) : (Tryd.prog.info? 123).map (·.size) = some (l.map u8v).length := by
  rw [List.length_map, h]; kernel_rfl
end Go.Proofs.YtlddafkikkaonaaDoor
namespace Go.Proofs.YtlddafkikkaonaaDoor
open Go.RowKit

/-- the words that are mixed -/
def xcW (k inn : List UInt8) : List UInt32 := fillW (fillW baseW 4 (wordL k) 8) 12 (wordL inn) 4
def xcoreW (k inn : List UInt8) : List UInt32 := coreW 10 (xcW k inn)
/-- HChaCha20 -/
def deriveL (k inn : List UInt8) : List UInt8 := ((xcoreW k inn).take 4 ++ (xcoreW k inn).drop 12).flatMap fun x => littleL x.toNat 4
theorem xcW_length (k inn : List UInt8) : (xcW k inn).length = 16 := by rw [xcW, fillW_length, fillW_length]; rfl
theorem xcoreW_length (k inn : List UInt8) : (xcoreW k inn).length = 16 := by rw [xcoreW, coreW_length, xcW_length]
theorem deriveL_length (k inn : List UInt8) : (deriveL k inn).length = 32 := by
  rw [deriveL, flat_four, List.length_append, List.length_take, List.length_drop, xcoreW_length]; rfl
def longN (n : List UInt8) : List UInt8 := List.replicate 4 0 ++ n.drop 16
theorem longN_length (n : List UInt8) (h : n.length = 24) : (longN n).length = 12 := by rw [longN, List.length_append, List.length_replicate, List.length_drop, h]
def longK (k n : List UInt8) : List UInt8 := deriveL k (n.take 16)
theorem longK_length (k n : List UInt8) : (longK k n).length = 32 := deriveL_length _ _
def xsealL (k n p more : List UInt8) : List UInt8 := sealL (longK k n) (longN n) p more
def xopenL (k n s more : List UInt8) : List UInt8 × Nat := openL (longK k n) (longN n) s more
theorem xsealL_length (k n p more : List UInt8) : (xsealL k n p more).length = p.length + 16 := sealL_length _ _ _ _
theorem xopen_seal (k n p more : List UInt8) : xopenL k n (xsealL k n p more) more = (p, 0) := open_seal _ _ _ _
theorem xc_cellsL (l : List UInt8) (h : l.length = 24) : (Tryd.prog.info? 52).map (·.size) = some (l.map u8v).length := by
  rw [List.length_map, h]; kernel_rfl
theorem xc_cells16 (l : List UInt8) (h : l.length = 16) : (Tryd.prog.info? 25).map (·.size) = some (l.map u8v).length := by
  rw [List.length_map, h]; kernel_rfl
end Go.Proofs.YtlddafkikkaonaaDoor
namespace Go.Proofs.YtlddafkikkaonaaDoor
open Go.RowKit

/-- a cookie reply, and the cookie of one -/
def replyM (p n ck mac : List UInt8) (r : Nat) : MsgM := ⟨[r], n ++ xsealL (hideB p) n ck mac⟩
def openB (p mac l : List UInt8) : List UInt8 × Nat :=
  if kindB l = 3 then
    let r := xopenL (hideB p) ((l.drop 8).take 24) ((l.drop 32).take 32) mac
    if r.2 = 0 then (r.1, 0) else (List.replicate 16 0, r.2)
  else (List.replicate 16 0, 4)
def McReplyC (F : Nat) : Prop := ∀ (p n ck mac : List UInt8), p.length = 32 → n.length = 24 → ck.length = 16 → mac.length = 16 → ∀ r : Nat, r < 4294967296 → ∀ w : World, LvBlake w →
  Calls Tryd.prog F #[.agg (p.map u8v).toArray, .agg (n.map u8v).toArray, .agg (ck.map u8v).toArray, .agg (mac.map u8v).toArray, .int .u32 (r : Int)] w fun e w' => ∃ A c, e = .returned (.slice A (msLen 3) c) ∧ msLen 3 ≤ c ∧ c ≤ maxLen ∧ RdIn w.heap.size w'.heap.size A (msLen 3) (encB 3 (replyM p n ck mac r)) w' ∧ Below w.heap.size w w'
def McOpenC (F : Nat) : Prop := ∀ (p mac : List UInt8), p.length = 32 → mac.length = 16 → ∀ (A : Option Addr) (n c : Nat) (l : List UInt8), n ≤ c → c ≤ maxLen → n ≤ 100000 → ∀ w : World, LvBlake w → Rd w w.heap.size A n l →
  Calls Tryd.prog F #[.agg (p.map u8v).toArray, .agg (mac.map u8v).toArray, .slice A n c] w fun e w' => e = .returned (.tuple #[.agg ((openB p mac l).1.map u8v).toArray, .int .i64 ((openB p mac l).2 : Int)]) ∧ Below w.heap.size w w'
end Go.Proofs.YtlddafkikkaonaaDoor
namespace Go.Proofs.YtlddafkikkaonaaDoor
open Go.RowKit

theorem replyM_ok {p n ck mac : List UInt8} {r : Nat} (hn : n.length = 24) (hck : ck.length = 16) (hr : r < 4294967296) : (replyM p n ck mac r).ok 3 := by
  refine ⟨rfl, ?_, ?_⟩
  · show (n ++ xsealL (hideB p) n ck mac).length = 56
    rw [List.length_append, hn, xsealL_length, hck]
  · intro v hv
    simp only [replyM, List.mem_singleton] at hv
    omega
theorem open_reply {p n ck mac : List UInt8} {r : Nat} (hn : n.length = 24) (hck : ck.length = 16) (hr : r < 4294967296) : openB p mac (encB 3 (replyM p n ck mac r)) = (ck, 0) := by
  have hok := replyM_ok (p := p) (mac := mac) hn hck hr
  have hk := encB_kind (k := 3) (by omega) hok
  have hx : (xsealL (hideB p) n ck mac).length = 32 := by rw [xsealL_length, hck]
  have e : encB 3 (replyM p n ck mac r) = (msHead 3 ++ littleL r 4) ++ (n ++ xsealL (hideB p) n ck mac) := by
    simp only [encB, replyM, numsB, List.flatMap_cons, List.flatMap_nil, List.append_nil, List.append_assoc]
  have h8 : (msHead 3 ++ littleL r 4).length = 8 := by rw [List.length_append, littleL_length]; rfl
  have d8 : (encB 3 (replyM p n ck mac r)).drop 8 = n ++ xsealL (hideB p) n ck mac := by rw [e, List.drop_left' h8]
  have d32 : (encB 3 (replyM p n ck mac r)).drop 32 = xsealL (hideB p) n ck mac := by
    rw [show 32 = 8 + 24 from rfl, ← List.drop_drop, d8, List.drop_left' hn]
  unfold openB
  rw [if_pos hk, d8, d32, List.take_left' hn, List.take_of_length_le (by omega), xopen_seal]
  rfl
end Go.Proofs.YtlddafkikkaonaaDoor
namespace Go.Proofs.YtlddafkikkaonaaDoor
open Go.RowKit

theorem run_tag_eq (xs : List UInt8) (hx : xs.length = 16) (w : World) : (Op.equalIn 10000 30 (.agg (xs.map u8v).toArray) (.agg (xs.map u8v).toArray)).run Tryd.prog w = .ok true w := by
  obtain ⟨i0, hi, _, hz1, _⟩ := info_parts Tryd.info5
  have h := run_key_eq (P := Tryd.prog) 30 5 16 Tryd.underlying30 Tryd.underlying5 i0 hi hz1 xs xs hx hx w
  rwa [show (xs == xs) = true by simp] at h
end Go.Proofs.YtlddafkikkaonaaDoor
namespace Go.Proofs.YtlddafkikkaonaaDoor
open Go.RowKit

theorem msg_seg {k : Nat} {m : MsgM} (h : m.ok k) (q o z : Nat) (hq : msN k + o = q) : (m.cells.drop q).take z = ((m.bs.drop o).take z).map u8v := by
  subst hq
  have hl : (m.nums.map u32c).length = msN k := by rw [List.length_map, h.1]
  rw [MsgM.cells, ← List.drop_drop, ← hl, List.drop_left, List.map_take, List.map_drop]
end Go.Proofs.YtlddafkikkaonaaDoor
namespace Go.Proofs.YtlddafkikkaonaaDoor
open Go.RowKit

theorem msg_one_num {k : Nat} {m : MsgM} (h : m.ok k) (i : Nat) (hi : i < msN k) : (m.cells.drop i).take 1 = [u32c (m.nums.getD i 0)] := by
  have hi2 : i < m.nums.length := by rw [h.1]; exact hi
  rw [List.drop_eq_getElem_cons (by rw [MsgM.cells_length h]; omega)]
  simp only [List.take_succ_cons, List.take_zero, MsgM.cells]
  rw [List.getElem_append_left (by rw [List.length_map]; exact hi2), List.getElem_map]
  simp [List.getD, hi2]
theorem msg_num_lt {k : Nat} {m : MsgM} (h : m.ok k) (i : Nat) : m.nums.getD i 0 < 4294967296 := by
  rw [List.getD_eq_getElem?_getD]
  cases hi : m.nums[i]? with
  | none => simp
  | some v => exact h.2.2 v (List.mem_of_getElem? hi)
set_option maxRecDepth 100000 in
theorem msg_same1 (m : MsgM) (h : m.ok 1) (w : World) : (Op.equalIn 10000 35 (.agg m.cells.toArray) (.agg m.cells.toArray)).run Tryd.prog w = .ok true w := by
  have hl := MsgM.cells_length h
  refine same_obj 5 4 35 (by omega) (by kernel_rfl) m.cells ?_ _ Tryd.underlying35 rfl (by rw [hl]; kernel_rfl) w
  refine lits_struct Tryd.underlying35 m.cells (by rw [hl]; kernel_rfl) (by simp) ?_
  intro f hf
  simp only [List.mem_cons, List.not_mem_nil, or_false] at hf
  rcases hf with rfl | rfl | rfl | rfl | rfl | rfl
  · have e : (m.cells.drop 0).take (Tryd.prog.cellsOf 31) = [u32c (m.nums.getD 0 0)] := by
      rw [show Tryd.prog.cellsOf 31 = 1 by kernel_rfl]
      exact msg_one_num h 0 (by decide)
    exact e ▸ lits_int Tryd.underlying31 _ (by have := msg_num_lt h 0; generalize m.nums.getD 0 0 = v at this ⊢; exact ⟨by simp [IntKind.min, IntKind.signed], by simp [IntKind.max, IntKind.signed, IntKind.bits]; omega⟩)
  · have e : (m.cells.drop 1).take (Tryd.prog.cellsOf 23) = ((m.bs.drop 0).take 32).map u8v := by
      rw [show Tryd.prog.cellsOf 23 = 32 by kernel_rfl]
      exact msg_seg h 1 0 32 rfl
    exact e ▸ lits_bytes Tryd.underlying23 Tryd.underlying5 (by kernel_rfl) _ (by rw [List.length_take, List.length_drop, h.2.1]; rfl) (by kernel_rfl)
  · have e : (m.cells.drop 33).take (Tryd.prog.cellsOf 32) = ((m.bs.drop 32).take 48).map u8v := by
      rw [show Tryd.prog.cellsOf 32 = 48 by kernel_rfl]
      exact msg_seg h 33 32 48 rfl
    exact e ▸ lits_bytes Tryd.underlying32 Tryd.underlying5 (by kernel_rfl) _ (by rw [List.length_take, List.length_drop, h.2.1]; rfl) (by kernel_rfl)
  · have e : (m.cells.drop 81).take (Tryd.prog.cellsOf 33) = ((m.bs.drop 80).take 28).map u8v := by
      rw [show Tryd.prog.cellsOf 33 = 28 by kernel_rfl]
      exact msg_seg h 81 80 28 rfl
    exact e ▸ lits_bytes Tryd.underlying33 Tryd.underlying5 (by kernel_rfl) _ (by rw [List.length_take, List.length_drop, h.2.1]; rfl) (by kernel_rfl)
  · have e : (m.cells.drop 109).take (Tryd.prog.cellsOf 30) = ((m.bs.drop 108).take 16).map u8v := by
      rw [show Tryd.prog.cellsOf 30 = 16 by kernel_rfl]
      exact msg_seg h 109 108 16 rfl
    exact e ▸ lits_bytes Tryd.underlying30 Tryd.underlying5 (by kernel_rfl) _ (by rw [List.length_take, List.length_drop, h.2.1]; rfl) (by kernel_rfl)
  · have e : (m.cells.drop 125).take (Tryd.prog.cellsOf 30) = ((m.bs.drop 124).take 16).map u8v := by
      rw [show Tryd.prog.cellsOf 30 = 16 by kernel_rfl]
      exact msg_seg h 125 124 16 rfl
    exact e ▸ lits_bytes Tryd.underlying30 Tryd.underlying5 (by kernel_rfl) _ (by rw [List.length_take, List.length_drop, h.2.1]; rfl) (by kernel_rfl)
theorem msg_noguard1 : Tryd.prog.eqGuardType Tryd.prog.depth 35 = false := by kernel_rfl
set_option maxRecDepth 100000 in
theorem msg_same2 (m : MsgM) (h : m.ok 2) (w : World) : (Op.equalIn 10000 37 (.agg m.cells.toArray) (.agg m.cells.toArray)).run Tryd.prog w = .ok true w := by
  have hl := MsgM.cells_length h
  refine same_obj 5 4 37 (by omega) (by kernel_rfl) m.cells ?_ _ Tryd.underlying37 rfl (by rw [hl]; kernel_rfl) w
  refine lits_struct Tryd.underlying37 m.cells (by rw [hl]; kernel_rfl) (by simp) ?_
  intro f hf
  simp only [List.mem_cons, List.not_mem_nil, or_false] at hf
  rcases hf with rfl | rfl | rfl | rfl | rfl | rfl
  · have e : (m.cells.drop 0).take (Tryd.prog.cellsOf 31) = [u32c (m.nums.getD 0 0)] := by
      rw [show Tryd.prog.cellsOf 31 = 1 by kernel_rfl]
      exact msg_one_num h 0 (by decide)
    exact e ▸ lits_int Tryd.underlying31 _ (by have := msg_num_lt h 0; generalize m.nums.getD 0 0 = v at this ⊢; exact ⟨by simp [IntKind.min, IntKind.signed], by simp [IntKind.max, IntKind.signed, IntKind.bits]; omega⟩)
  · have e : (m.cells.drop 1).take (Tryd.prog.cellsOf 31) = [u32c (m.nums.getD 1 0)] := by
      rw [show Tryd.prog.cellsOf 31 = 1 by kernel_rfl]
      exact msg_one_num h 1 (by decide)
    exact e ▸ lits_int Tryd.underlying31 _ (by have := msg_num_lt h 1; generalize m.nums.getD 1 0 = v at this ⊢; exact ⟨by simp [IntKind.min, IntKind.signed], by simp [IntKind.max, IntKind.signed, IntKind.bits]; omega⟩)
  · have e : (m.cells.drop 2).take (Tryd.prog.cellsOf 23) = ((m.bs.drop 0).take 32).map u8v := by
      rw [show Tryd.prog.cellsOf 23 = 32 by kernel_rfl]
      exact msg_seg h 2 0 32 rfl
    exact e ▸ lits_bytes Tryd.underlying23 Tryd.underlying5 (by kernel_rfl) _ (by rw [List.length_take, List.length_drop, h.2.1]; rfl) (by kernel_rfl)
  · have e : (m.cells.drop 34).take (Tryd.prog.cellsOf 30) = ((m.bs.drop 32).take 16).map u8v := by
      rw [show Tryd.prog.cellsOf 30 = 16 by kernel_rfl]
      exact msg_seg h 34 32 16 rfl
    exact e ▸ lits_bytes Tryd.underlying30 Tryd.underlying5 (by kernel_rfl) _ (by rw [List.length_take, List.length_drop, h.2.1]; rfl) (by kernel_rfl)
  · have e : (m.cells.drop 50).take (Tryd.prog.cellsOf 30) = ((m.bs.drop 48).take 16).map u8v := by
      rw [show Tryd.prog.cellsOf 30 = 16 by kernel_rfl]
      exact msg_seg h 50 48 16 rfl
    exact e ▸ lits_bytes Tryd.underlying30 Tryd.underlying5 (by kernel_rfl) _ (by rw [List.length_take, List.length_drop, h.2.1]; rfl) (by kernel_rfl)
  · have e : (m.cells.drop 66).take (Tryd.prog.cellsOf 30) = ((m.bs.drop 64).take 16).map u8v := by
      rw [show Tryd.prog.cellsOf 30 = 16 by kernel_rfl]
      exact msg_seg h 66 64 16 rfl
    exact e ▸ lits_bytes Tryd.underlying30 Tryd.underlying5 (by kernel_rfl) _ (by rw [List.length_take, List.length_drop, h.2.1]; rfl) (by kernel_rfl)
theorem msg_noguard2 : Tryd.prog.eqGuardType Tryd.prog.depth 37 = false := by kernel_rfl
theorem wpList_eql_agg {P : Program} {w : World} {ops : Array Oper} {rest : List Oper} {o : Oper} {a : Act} {Q : Exit → Act → World → Prop} (hw : Region.wanted o (yielded ops a.tmps) = true) (t r : TypeId) (i j : Tmp) (ho : o.op = .binOp .eql t (.tmp i) (.tmp j) r) (u v : Array Value) (b : Bool)
    (hx : a.eval (.tmp i) = .agg u) (hy : a.eval (.tmp j) = .agg v) (hg : P.eqGuardType P.depth t = false) (he : (Op.equalIn 10000 t (.agg u) (.agg v)).run P w = .ok b w)
    (h : wpList P ops Q rest (a.put o.dst (.bool b)) w) : wpList P ops Q (o :: rest) a w :=
  wpList_step fun K hK => by
    rw [if_pos hw]
    have he2 : (Op.equalIn Op.maxDepth t (.agg u) (.agg v)).run P w = .ok b w := he
    have hr : (execOp a.eval o).run P w = .ok (.value (.bool b)) w := by
      unfold execOp
      simp only [ho, hx, hy, eqGuard]
      simp [binOp, Op.equal, he2, hg, Result.andThen]
    unfold Oper.wp
    rw [hr]
    exact hK _ _ h
end Go.Proofs.YtlddafkikkaonaaDoor
namespace Go.Proofs.YtlddafkikkaonaaDoor
open Go.RowKit

noncomputable abbrev zc1 : Array Value := Tryd.zeroCells35
noncomputable abbrev zc2 : Array Value := Tryd.zeroCells37
end Go.Proofs.YtlddafkikkaonaaDoor
namespace Go.Proofs.YtlddafkikkaonaaDoor
open Go.RowKit

theorem RdIn.from_ {lo lo' hi : Nat} {A : Option Addr} {n : Nat} {l : List UInt8} {W : World} (h : RdIn lo hi A n l W) (hl : lo' ≤ lo) : RdIn lo' hi A n l W :=
  ⟨h.1, fun hn => by
    obtain ⟨b, off, e, h1, h2, hc⟩ := h.2 hn
    exact ⟨b, off, e, Nat.le_trans hl h1, h2, hc⟩⟩
theorem RdIn.of_own {w : World} {base n c : Nat} {A : Option Addr} {l : List UInt8} (ho : w.ownsRow base 5 1 (.slice A n c) n (l.map u8v)) : RdIn base w.heap.size A n l w := by
  have hr := Rd.of_own ho
  refine ⟨hr.1, fun hn => ?_⟩
  obtain ⟨b, off, e, h1, hc⟩ := hr.2 hn
  subst e
  exact ⟨b, off, rfl, (ho.lt b rfl).1, h1, hc⟩
end Go.Proofs.YtlddafkikkaonaaDoor
namespace Go.Proofs.YtlddafkikkaonaaDoor
open Go.RowKit

theorem seal_segs {k : Nat} (hk : k = 1 ∨ k = 2) (p : List UInt8) (has : Bool) (ck : List UInt8) {m : MsgM} (h : m.ok k) (q1 q2 : Nat) (h1 : q1 = msN k + (msB k - 32)) (h2 : q2 = q1 + 16) :
    (((sealM p has ck k m).cells.drop q1).take 16 = (macM p k m).map u8v) ∧ (((sealM p has ck k m).cells.drop q2).take 16 = (mac2M p has ck k m).map u8v) := by
  have hB := two_big hk
  have ho := sealM_ok hk p has ck h
  have hl : (m.bs.take (msB k - 32)).length = msB k - 32 := by rw [List.length_take, h.2.1]; omega
  constructor
  · rw [msg_seg ho q1 (msB k - 32) 16 h1.symm, sealM, List.drop_left' hl, List.take_left' (macM_length p k m)]
  · rw [msg_seg ho q2 (msB k - 32 + 16) 16 (by rw [h2, h1]; omega), sealM, ← List.drop_drop, List.drop_left' hl, List.drop_left' (macM_length p k m), List.take_of_length_le (by rw [mac2M_length]; omega)]
set_option maxRecDepth 100000 in
set_option maxHeartbeats 16000000 in
set_option linter.unusedSimpArgs false in
theorem mc_returns_walk (HSI : McSealC 7 1) (HSR : McSealC 9 2) (HC1 : McCheck1C 17) (HC2 : McCheck2C 19) (HRE : McReplyC 22) (HOR : McOpenC 21) (HDI : MsDecC 23 1) (HDR : MsDecC 24 2) (w : World) (hlv : LvBlake w)
    (p ck : List UInt8) (hp : p.length = 32) (hck : ck.length = 16) (m1 m2 : MsgM) (hok1 : m1.ok 1) (hok2 : m2.ok 2) (nn : List UInt8) (hnn : nn.length = 24) (rc : Nat) (hrc : rc < 4294967296) :
    Calls Tryd.prog 5 #[.agg (p.map u8v).toArray, .agg (ck.map u8v).toArray, .agg m1.cells.toArray, .agg m2.cells.toArray, .agg (nn.map u8v).toArray, .int .u32 (rc : Int)] w fun e w' => e = .returned (.bool true) ∧ Below w.heap.size w w' := by
  have HLV := Lib.hid hlv
  have HBG := Lib.hid (fun W (h : LvBlake W) => mc_begun_any HSI HC1 W h)
  have hs1 := HSI p ck hp hck true m1 hok1
  have hs2 := HSR p ck hp hck true m2 hok2
  have hck11 := seal_check1 (k := 1) (by omega) p true ck hok1
  have hck21 := seal_check2 (k := 1) (by omega) p ck hok1
  have hdec1 := seal_dec (k := 1) (by omega) p true ck hok1
  have hsok1 := sealM_ok (k := 1) (by omega) p true ck hok1
  have ha1 : (macM p 1 m1).length = 16 := macM_length _ _ _
  have hn1 : (mac2M p true ck 1 m1).length = 16 := mac2M_length _ _ _ _ _
  have hset1 := set_codes (k := 1) (by omega) hok1 (macM p 1 m1) (mac2M p true ck 1 m1) ha1 hn1 109 125 rfl rfl
  have hseg1 := seal_segs (k := 1) (by omega) p true ck hok1 109 125 rfl rfl
  rw [show MsgM.mk m1.nums (m1.bs.take (msB 1 - 32) ++ (macM p 1 m1 ++ mac2M p true ck 1 m1)) = sealM p true ck 1 m1 from rfl] at hset1
  have hck12 := seal_check1 (k := 2) (by omega) p true ck hok2
  have hck22 := seal_check2 (k := 2) (by omega) p ck hok2
  have hdec2 := seal_dec (k := 2) (by omega) p true ck hok2
  have hsok2 := sealM_ok (k := 2) (by omega) p true ck hok2
  have ha2 : (macM p 2 m2).length = 16 := macM_length _ _ _
  have hn2 : (mac2M p true ck 2 m2).length = 16 := mac2M_length _ _ _ _ _
  have hset2 := set_codes (k := 2) (by omega) hok2 (macM p 2 m2) (mac2M p true ck 2 m2) ha2 hn2 50 66 rfl rfl
  have hseg2 := seal_segs (k := 2) (by omega) p true ck hok2 50 66 rfl rfl
  rw [show MsgM.mk m2.nums (m2.bs.take (msB 2 - 32) ++ (macM p 2 m2 ++ mac2M p true ck 2 m2)) = sealM p true ck 2 m2 from rfl] at hset2
  have hrp := HRE p nn ck (macM p 1 m1) hp hnn hck ha1 rc hrc
  have hop := HOR p (macM p 1 m1) hp ha1
  have hoy := open_reply (p := p) (mac := macM p 1 m1) hnn hck hrc
  generalize encB 3 (replyM p nn ck (macM p 1 m1) rc) = Y at hrp hoy
  generalize encB 1 (sealM p true ck 1 m1) = X1 at hs1 hck11 hck21 hdec1
  generalize sealM p true ck 1 m1 = s1 at hdec1 hsok1 hset1 hseg1
  generalize macM p 1 m1 = mt1 at hs1 ha1 hset1 hseg1 hrp hop hoy
  generalize mac2M p true ck 1 m1 = n1 at hn1 hset1 hseg1
  generalize encB 2 (sealM p true ck 2 m2) = X2 at hs2 hck12 hck22 hdec2
  generalize sealM p true ck 2 m2 = s2 at hdec2 hsok2 hset2 hseg2
  generalize macM p 2 m2 = mt2 at hs2 ha2 hset2 hseg2
  generalize mac2M p true ck 2 m2 = n2 at hn2 hset2 hseg2
  have hl1 := MsgM.cells_length hok1
  have hl2 := MsgM.cells_length hok2
  have hl3 := MsgM.cells_length hsok1
  have hl4 := MsgM.cells_length hsok2
  have HU1 := Lib.hid (show (Tryd.prog.info? 35).map (·.size) = some m1.cells.length from by rw [hl1]; kernel_rfl)
  have HU2 := Lib.hid (show (Tryd.prog.info? 37).map (·.size) = some m2.cells.length from by rw [hl2]; kernel_rfl)
  have HUS1 := Lib.hid (show (Tryd.prog.info? 35).map (·.size) = some s1.cells.length from by rw [hl3]; kernel_rfl)
  have HUS2 := Lib.hid (show (Tryd.prog.info? 37).map (·.size) = some s2.cells.length from by rw [hl4]; kernel_rfl)
  have HLS1 := Lib.hid (show (msg0 1).cells.length = s1.cells.length from by rw [hl3]; rfl)
  have HLS2 := Lib.hid (show (msg0 2).cells.length = s2.cells.length from by rw [hl4]; rfl)
  have HLE1 := Lib.hid (show 109 + 16 ≤ m1.cells.length ∧ 125 + 16 ≤ (setL m1.cells 109 (mt1.map u8v)).length from ⟨by rw [hl1]; decide, by rw [setL_len _ _ _ (by rw [hl1, List.length_map, ha1]; decide), hl1]; decide⟩)
  have HLE2 := Lib.hid (show 50 + 16 ≤ m2.cells.length ∧ 66 + 16 ≤ (setL m2.cells 50 (mt2.map u8v)).length from ⟨by rw [hl2]; decide, by rw [setL_len _ _ _ (by rw [hl2, List.length_map, ha2]; decide), hl2]; decide⟩)
  have HET1 := Lib.hid (fun w' : World => run_tag_eq mt1 ha1 w')
  have HET2 := Lib.hid (fun w' : World => run_tag_eq mt2 ha2 w')
  have HEK := Lib.hid (fun w' : World => run_tag_eq ck hck w')
  have hc1 := HC1 p hp
  have hc2 := HC2 ck hck
  have HP := Lib.hid hp
  have HK := Lib.hid hck
  have HN := Lib.hid hnn
  have HMT1 := Lib.hid ha1
  have HMT2 := Lib.hid ha2
  have HN1 := Lib.hid hn1
  have HN2 := Lib.hid hn2
  obtain ⟨cp, hcp⟩ : ∃ z, (p.map u8v).toArray = z := ⟨_, rfl⟩
  obtain ⟨cc, hcc⟩ : ∃ z, (ck.map u8v).toArray = z := ⟨_, rfl⟩
  obtain ⟨cm1, hcm1⟩ : ∃ z, m1.cells.toArray = z := ⟨_, rfl⟩
  obtain ⟨cm2, hcm2⟩ : ∃ z, m2.cells.toArray = z := ⟨_, rfl⟩
  obtain ⟨cn, hcn⟩ : ∃ z, (nn.map u8v).toArray = z := ⟨_, rfl⟩
  obtain ⟨ct1, hct1⟩ : ∃ z, (mt1.map u8v).toArray = z := ⟨_, rfl⟩
  obtain ⟨ct2, hct2⟩ : ∃ z, (mt2.map u8v).toArray = z := ⟨_, rfl⟩
  obtain ⟨cn1, hcn1⟩ : ∃ z, (n1.map u8v).toArray = z := ⟨_, rfl⟩
  obtain ⟨cn2, hcn2⟩ : ∃ z, (n2.map u8v).toArray = z := ⟨_, rfl⟩
  obtain ⟨cs1, hcs1⟩ : ∃ z, s1.cells.toArray = z := ⟨_, rfl⟩
  obtain ⟨cs2, hcs2⟩ : ∃ z, s2.cells.toArray = z := ⟨_, rfl⟩
  rw [hcp, hcc, hcm1, hct1] at hs1
  rw [hcp, hcc, hcm2, hct2] at hs2
  rw [hcp, hcn, hcc, hct1] at hrp
  rw [hcp, hct1] at hop
  rw [hcp] at hc1
  rw [hcc] at hc2
  rw [hct1] at HET1
  rw [hct2] at HET2
  rw [hcc] at HEK
  have HS1 := Lib.hid hs1
  have HS2 := Lib.hid hs2
  have HRP := Lib.hid hrp
  have HOP := Lib.hid hop
  have HOY := Lib.hid hoy
  have HK1 := Lib.hid hc1
  have HK2 := Lib.hid hc2
  have HD1 := Lib.hid HDI
  have HD2 := Lib.hid HDR
  have HDE1 := Lib.hid hdec1
  have HDE2 := Lib.hid hdec2
  have HV11 := Lib.hid hck11
  have HV21 := Lib.hid hck21
  have HV12 := Lib.hid hck12
  have HV22 := Lib.hid hck22
  have HSET1 := Lib.hid hset1
  have HSET2 := Lib.hid hset2
  have HSEG1 := Lib.hid hseg1
  have HSEG2 := Lib.hid hseg2
  have HOK1 := Lib.hid hsok1
  have HOK2 := Lib.hid hsok2
  have HCP := Lib.hid hcp
  have HCC := Lib.hid hcc
  have HCM1 := Lib.hid hcm1
  have HCM2 := Lib.hid hcm2
  have HCN := Lib.hid hcn
  have HCT1 := Lib.hid hct1
  have HCT2 := Lib.hid hct2
  have HCN1 := Lib.hid hcn1
  have HCN2 := Lib.hid hcn2
  have HCS1 := Lib.hid hcs1
  have HCS2 := Lib.hid hcs2
  rw [hcp, hcc, hcm1, hcm2, hcn]
  have HM := Lib.hid (show Mem w [blkE (w.heap.size + 1 + 1 + 1 + 1) 52 (nn.map u8v), blkE (w.heap.size + 1 + 1 + 1) 37 m2.cells, blkE (w.heap.size + 1 + 1) 35 m1.cells, blkE (w.heap.size + 1) 30 (ck.map u8v), blkE w.heap.size 23 (p.map u8v)] (((((w.alloc (.cells cp 23)).alloc (.cells cc 30)).alloc (.cells cm1 35)).alloc (.cells cm2 37)).alloc (.cells cn 52)) from ((((((Mem.nil w).alloc rfl 23 cp (p.map u8v) hcp.symm).alloc (by simp) 30 cc (ck.map u8v) hcc.symm).alloc (by simp) 35 cm1 m1.cells hcm1.symm).alloc (by simp) 37 cm2 m2.cells hcm2.symm).alloc (by simp) 52 cn (nn.map u8v) hcn.symm))
  clear hs1 hs2 hrp hop hoy hc1 hc2 hdec1 hdec2 hck11 hck21 hck12 hck22 hset1 hset2 hseg1 hseg2 hsok1 hsok2 ha1 ha2 hn1 hn2 hl1 hl2 hl3 hl4 hcp hcc hcm1 hcm2 hcn hct1 hct2 hcn1 hcn2 hcs1 hcs2 hp hck hnn hok1 hok2 hrc hlv HSI HSR HC1 HC2 HRE HOR HDI HDR
  go_enter Tryd.func5, Tryd.ntmps5
  go_upto_region 1 with fail
  generalize (((((w.alloc (.cells cp 23)).alloc (.cells cc 30)).alloc (.cells cm1 35)).alloc (.cells cm2 37)).alloc (.cells cn 52)) = w1 at HM ⊢
  go_wp2_with (first | (refine wpList_load_obj rfl 23 (.tmp 6) rfl w.heap.size 0 rfl (p.map u8v) (HM.out.blk 4 rfl).all _ Tryd.underlying23 rfl (cells32 p HP.out) ?_; rw [HCP.out]) | (refine wpList_load_obj rfl 30 (.tmp 7) rfl (w.heap.size + 1) 0 rfl (ck.map u8v) (HM.out.blk 3 rfl).all _ Tryd.underlying30 rfl (ae_cellsT ck HK.out) ?_; rw [HCC.out]) | (refine wpList_load_obj rfl 35 (.tmp 8) rfl (w.heap.size + 1 + 1) 0 rfl m1.cells (HM.out.blk 2 rfl).all _ Tryd.underlying35 rfl HU1.out ?_; rw [HCM1.out]))
  refine (HS1.out _ (HLV.out.below HM.out.bel)).mono ?_
  rintro e wa1 ⟨A1, c1, rfl, h1, h2, hr, hb⟩
  rw [show msLen 1 = 148 from rfl] at h1 hr ⊢
  replace HM := Lib.hid (show Mem w [rdE w1.heap.size wa1.heap.size A1 148 X1, blkE (w.heap.size + 1 + 1 + 1 + 1) 52 (nn.map u8v), blkE (w.heap.size + 1 + 1 + 1) 37 m2.cells, blkE (w.heap.size + 1 + 1) 35 m1.cells, blkE (w.heap.size + 1) 30 (ck.map u8v), blkE w.heap.size 23 (p.map u8v)] wa1 from HM.out.call hb (rdE w1.heap.size wa1.heap.size A1 148 X1) rfl rfl hr)
  have HA1 := Lib.hid (show 148 ≤ c1 ∧ c1 ≤ maxLen from ⟨h1, h2⟩)
  clear hr hb h1 h2
  have HMZ := Lib.hid (show Mem w [blkE wa1.heap.size 30 ((List.replicate 16 (0 : UInt8)).map u8v), rdE w1.heap.size wa1.heap.size A1 148 X1, blkE (w.heap.size + 1 + 1 + 1 + 1) 52 (nn.map u8v), blkE (w.heap.size + 1 + 1 + 1) 37 m2.cells, blkE (w.heap.size + 1 + 1) 35 m1.cells, blkE (w.heap.size + 1) 30 (ck.map u8v), blkE w.heap.size 23 (p.map u8v)] (wa1.alloc (.cells #[.int .u8 0, .int .u8 0, .int .u8 0, .int .u8 0, .int .u8 0, .int .u8 0, .int .u8 0, .int .u8 0, .int .u8 0, .int .u8 0, .int .u8 0, .int .u8 0, .int .u8 0, .int .u8 0, .int .u8 0, .int .u8 0] 30)) from HM.out.alloc rfl 30 #[.int .u8 0, .int .u8 0, .int .u8 0, .int .u8 0, .int .u8 0, .int .u8 0, .int .u8 0, .int .u8 0, .int .u8 0, .int .u8 0, .int .u8 0, .int .u8 0, .int .u8 0, .int .u8 0, .int .u8 0, .int .u8 0] ((List.replicate 16 (0 : UInt8)).map u8v) rfl)
  clear HM
  go_upto_region 2 with (refine wpList_store_blk rfl 30 (.tmp 14) (.tmp 29) rfl wa1.heap.size (mt1.map u8v) rfl (by show Value.agg ct1 = _; rw [HCT1.out]) 30 ((List.replicate 16 (0 : UInt8)).map u8v) (HMZ.out.blk 0 rfl) (ae_cellsT mt1 HMT1.out) (by rw [List.length_map, List.length_map, HMT1.out]; rfl) (u8v_one _) ?_; intro wb1 hb5 hg5)
  (try simp only [Act.put])
  have HM := Lib.hid (show Mem w [blkE wa1.heap.size 30 (mt1.map u8v), rdE w1.heap.size wa1.heap.size A1 148 X1, blkE (w.heap.size + 1 + 1 + 1 + 1) 52 (nn.map u8v), blkE (w.heap.size + 1 + 1 + 1) 37 m2.cells, blkE (w.heap.size + 1 + 1) 35 m1.cells, blkE (w.heap.size + 1) 30 (ck.map u8v), blkE w.heap.size 23 (p.map u8v)] wb1 from HMZ.out.put 0 rfl _ hg5 hb5)
  clear hb5 hg5 HMZ
  go_wp2_with (first | (refine wpList_load_obj rfl 23 (.tmp 6) rfl w.heap.size 0 rfl (p.map u8v) (HM.out.blk 6 rfl).all _ Tryd.underlying23 rfl (cells32 p HP.out) ?_; rw [HCP.out]) | (refine wpList_load_obj rfl 30 (.tmp 7) rfl (w.heap.size + 1) 0 rfl (ck.map u8v) (HM.out.blk 5 rfl).all _ Tryd.underlying30 rfl (ae_cellsT ck HK.out) ?_; rw [HCC.out]) | (refine wpList_load_obj rfl 37 (.tmp 9) rfl (w.heap.size + 1 + 1 + 1) 0 rfl m2.cells (HM.out.blk 3 rfl).all _ Tryd.underlying37 rfl HU2.out ?_; rw [HCM2.out]))
  refine (HS2.out _ (HLV.out.below HM.out.bel)).mono ?_
  rintro e wa2 ⟨A2, c2, rfl, h1, h2, hr, hb⟩
  rw [show msLen 2 = 92 from rfl] at h1 hr ⊢
  replace HM := Lib.hid (show Mem w [rdE wb1.heap.size wa2.heap.size A2 92 X2, blkE wa1.heap.size 30 (mt1.map u8v), rdE w1.heap.size wa1.heap.size A1 148 X1, blkE (w.heap.size + 1 + 1 + 1 + 1) 52 (nn.map u8v), blkE (w.heap.size + 1 + 1 + 1) 37 m2.cells, blkE (w.heap.size + 1 + 1) 35 m1.cells, blkE (w.heap.size + 1) 30 (ck.map u8v), blkE w.heap.size 23 (p.map u8v)] wa2 from HM.out.call hb (rdE wb1.heap.size wa2.heap.size A2 92 X2) rfl rfl hr)
  have HA2 := Lib.hid (show 92 ≤ c2 ∧ c2 ≤ maxLen from ⟨h1, h2⟩)
  clear hr hb h1 h2
  have HMZ := Lib.hid (show Mem w [blkE wa2.heap.size 30 ((List.replicate 16 (0 : UInt8)).map u8v), rdE wb1.heap.size wa2.heap.size A2 92 X2, blkE wa1.heap.size 30 (mt1.map u8v), rdE w1.heap.size wa1.heap.size A1 148 X1, blkE (w.heap.size + 1 + 1 + 1 + 1) 52 (nn.map u8v), blkE (w.heap.size + 1 + 1 + 1) 37 m2.cells, blkE (w.heap.size + 1 + 1) 35 m1.cells, blkE (w.heap.size + 1) 30 (ck.map u8v), blkE w.heap.size 23 (p.map u8v)] (wa2.alloc (.cells #[.int .u8 0, .int .u8 0, .int .u8 0, .int .u8 0, .int .u8 0, .int .u8 0, .int .u8 0, .int .u8 0, .int .u8 0, .int .u8 0, .int .u8 0, .int .u8 0, .int .u8 0, .int .u8 0, .int .u8 0, .int .u8 0] 30)) from HM.out.alloc rfl 30 #[.int .u8 0, .int .u8 0, .int .u8 0, .int .u8 0, .int .u8 0, .int .u8 0, .int .u8 0, .int .u8 0, .int .u8 0, .int .u8 0, .int .u8 0, .int .u8 0, .int .u8 0, .int .u8 0, .int .u8 0, .int .u8 0] ((List.replicate 16 (0 : UInt8)).map u8v) rfl)
  clear HM
  go_upto_region 3 with (refine wpList_store_blk rfl 30 (.tmp 16) (.tmp 36) rfl wa2.heap.size (mt2.map u8v) rfl (by show Value.agg ct2 = _; rw [HCT2.out]) 30 ((List.replicate 16 (0 : UInt8)).map u8v) (HMZ.out.blk 0 rfl) (ae_cellsT mt2 HMT2.out) (by rw [List.length_map, List.length_map, HMT2.out]; rfl) (u8v_one _) ?_; intro wb2 hb5 hg5)
  (try simp only [Act.put])
  have HM := Lib.hid (show Mem w [blkE wa2.heap.size 30 (mt2.map u8v), rdE wb1.heap.size wa2.heap.size A2 92 X2, blkE wa1.heap.size 30 (mt1.map u8v), rdE w1.heap.size wa1.heap.size A1 148 X1, blkE (w.heap.size + 1 + 1 + 1 + 1) 52 (nn.map u8v), blkE (w.heap.size + 1 + 1 + 1) 37 m2.cells, blkE (w.heap.size + 1 + 1) 35 m1.cells, blkE (w.heap.size + 1) 30 (ck.map u8v), blkE w.heap.size 23 (p.map u8v)] wb2 from HMZ.out.put 0 rfl _ hg5 hb5)
  clear hb5 hg5 HMZ
  go_cut [17, 18] (fun p' e' wx => ∃ P17, p' = .pointer (some ⟨P17, 0, none⟩) ∧ e' = .int .i64 0 ∧ Mem w [blkE P17 30 (ck.map u8v), blkE wa2.heap.size 30 (mt2.map u8v), rdE wb1.heap.size wa2.heap.size A2 92 X2, blkE wa1.heap.size 30 (mt1.map u8v), rdE w1.heap.size wa1.heap.size A1 148 X1, blkE (w.heap.size + 1 + 1 + 1 + 1) 52 (nn.map u8v), blkE (w.heap.size + 1 + 1 + 1) 37 m2.cells, blkE (w.heap.size + 1 + 1) 35 m1.cells, blkE (w.heap.size + 1) 30 (ck.map u8v), blkE w.heap.size 23 (p.map u8v)] wx)
  case first =>
    refine wp_region_held_drew (S := fun W' => Mem w [blkE wa2.heap.size 30 (mt2.map u8v), rdE wb1.heap.size wa2.heap.size A2 92 X2, blkE wa1.heap.size 30 (mt1.map u8v), rdE w1.heap.size wa1.heap.size A1 148 X1, blkE (w.heap.size + 1 + 1 + 1 + 1) 52 (nn.map u8v), blkE (w.heap.size + 1 + 1 + 1) 37 m2.cells, blkE (w.heap.size + 1 + 1) 35 m1.cells, blkE (w.heap.size + 1) 30 (ck.map u8v), blkE w.heap.size 23 (p.map u8v)] W') (by kernel_rfl) ((HM.out).drew) (fun hHeld => ?_)
    replace HM := Lib.hid HM.out.drew
    generalize wb2.drew = wd1 at HM hHeld ⊢
    refine take_first (v := .agg cp) 0 rfl (by kernel_rfl) (by kernel_rfl) (by kernel_rfl) (fun _ _ _ h => h) (by rw [← HCP.out]; exact yields_load_obj (by rfl) 23 (.tmp 6) rfl w.heap.size 0 rfl (p.map u8v) (fun w' hb => (Mem.blk hb 8 rfl).all) _ Tryd.underlying23 rfl (cells32 p HP.out)) (by assumption) ?_
    (try simp only [Act.put, List.setIfInBounds_toArray, List.set_cons_zero, List.set_cons_succ])
    refine take_first (v := .agg ct1) 1 rfl (by kernel_rfl) (by kernel_rfl) (by kernel_rfl) (fun _ _ _ h => h) (by rw [← HCT1.out]; exact yields_load_obj (by rfl) 30 (.tmp 14) rfl wa1.heap.size 0 rfl (mt1.map u8v) (fun w' hb => (Mem.blk hb 2 rfl).all) _ Tryd.underlying30 rfl (ae_cellsT mt1 HMT1.out)) (by assumption) ?_
    (try simp only [Act.put, List.setIfInBounds_toArray, List.set_cons_zero, List.set_cons_succ])
    refine take_first (v := .agg cp) 2 rfl (by kernel_rfl) (by kernel_rfl) (by kernel_rfl) (fun _ _ _ h => h) (by rw [← HCP.out]; exact yields_load_obj (by rfl) 23 (.tmp 6) rfl w.heap.size 0 rfl (p.map u8v) (fun w' hb => (Mem.blk hb 8 rfl).all) _ Tryd.underlying23 rfl (cells32 p HP.out)) (by assumption) ?_
    (try simp only [Act.put, List.setIfInBounds_toArray, List.set_cons_zero, List.set_cons_succ])
    refine take_first (v := .agg cn) 3 rfl (by kernel_rfl) (by kernel_rfl) (by kernel_rfl) (fun _ _ _ h => h) (by rw [← HCN.out]; exact yields_load_obj (by rfl) 52 (.tmp 10) rfl (w.heap.size + 1 + 1 + 1 + 1) 0 rfl (nn.map u8v) (fun w' hb => (Mem.blk hb 4 rfl).all) _ Tryd.underlying52 rfl (xc_cellsL nn HN.out)) (by assumption) ?_
    (try simp only [Act.put, List.setIfInBounds_toArray, List.set_cons_zero, List.set_cons_succ])
    refine take_first (v := .agg cc) 4 rfl (by kernel_rfl) (by kernel_rfl) (by kernel_rfl) (fun _ _ _ h => h) (by rw [← HCC.out]; exact yields_load_obj (by rfl) 30 (.tmp 7) rfl (w.heap.size + 1) 0 rfl (ck.map u8v) (fun w' hb => (Mem.blk hb 7 rfl).all) _ Tryd.underlying30 rfl (ae_cellsT ck HK.out)) (by assumption) ?_
    (try simp only [Act.put, List.setIfInBounds_toArray, List.set_cons_zero, List.set_cons_succ])
    refine take_first (v := .agg ct1) 5 rfl (by kernel_rfl) (by kernel_rfl) (by kernel_rfl) (fun _ _ _ h => h) (by rw [← HCT1.out]; exact yields_load_obj (by rfl) 30 (.tmp 14) rfl wa1.heap.size 0 rfl (mt1.map u8v) (fun w' hb => (Mem.blk hb 2 rfl).all) _ Tryd.underlying30 rfl (ae_cellsT mt1 HMT1.out)) (by assumption) ?_
    (try simp only [Act.put, List.setIfInBounds_toArray, List.set_cons_zero, List.set_cons_succ])
    refine take_first (v := ?_) 6 rfl (by kernel_rfl) (by kernel_rfl) (by kernel_rfl) (fun _ _ _ h => h) (Or.inl ⟨by rfl, ?_⟩) (by assumption) ?_
    rotate_left
    · (intro w hSw; (try dsimp only at hSw); go_simp; try with_reducible rfl)
    (try simp only [Act.put, List.setIfInBounds_toArray, List.set_cons_zero, List.set_cons_succ])
    refine step_two 7 12 rfl rfl (by kernel_rfl) (fun K hK => ?_) (fun K hK => ?_)
    · clear hHeld
      go_simp
      refine (HRP.out _ (HLV.out.below HM.out.bel)).mono ?_
      rintro e wy2 ⟨A5, c5, rfl, h1, h2, hr, hb⟩
      rw [show msLen 3 = 64 from rfl] at h1 hr ⊢
      replace HM := Lib.hid (show Mem w [rdE wd1.heap.size wy2.heap.size A5 64 Y, blkE wa2.heap.size 30 (mt2.map u8v), rdE wb1.heap.size wa2.heap.size A2 92 X2, blkE wa1.heap.size 30 (mt1.map u8v), rdE w1.heap.size wa1.heap.size A1 148 X1, blkE (w.heap.size + 1 + 1 + 1 + 1) 52 (nn.map u8v), blkE (w.heap.size + 1 + 1 + 1) 37 m2.cells, blkE (w.heap.size + 1 + 1) 35 m1.cells, blkE (w.heap.size + 1) 30 (ck.map u8v), blkE w.heap.size 23 (p.map u8v)] wy2 from HM.out.call hb (rdE wd1.heap.size wy2.heap.size A5 64 Y) rfl rfl hr)
      have HA5 := Lib.hid (show 64 ≤ c5 ∧ c5 ≤ maxLen from ⟨h1, h2⟩)
      clear hr hb h1 h2
      generalize wy2.heap.size = Qh at HM
      generalize wd1.heap.size = Ql at HM
      go_wp2_with fail
      refine hK.out _ _ ((HM.out.erase 0)) (fun hHeld => ?_)
      clear hK K
      (try simp only [Act.put, List.setIfInBounds_toArray, List.set_cons_zero, List.set_cons_succ])
      refine wpAnyH_stronger (T := fun W' => Mem w [rdE Ql Qh A5 64 Y, blkE wa2.heap.size 30 (mt2.map u8v), rdE wb1.heap.size wa2.heap.size A2 92 X2, blkE wa1.heap.size 30 (mt1.map u8v), rdE w1.heap.size wa1.heap.size A1 148 X1, blkE (w.heap.size + 1 + 1 + 1 + 1) 52 (nn.map u8v), blkE (w.heap.size + 1 + 1 + 1) 37 m2.cells, blkE (w.heap.size + 1 + 1) 35 m1.cells, blkE (w.heap.size + 1) 30 (ck.map u8v), blkE w.heap.size 23 (p.map u8v)] W') (fun _ h' => h'.erase 0) _ _ _ _ ?_
      replace hHeld := HM.out
      refine step_two 8 12 rfl rfl (by kernel_rfl) (fun K hK => ?_) (fun K hK => ?_)
      · clear hHeld
        go_simp
        have hop := HOP.out A5 64 c5 Y HA5.out.1 HA5.out.2 (by omega) _ (HLV.out.below HM.out.bel) (HM.out.rd 0 rfl)
        rw [HOY.out, HCC.out] at hop
        refine hop.mono ?_
        rintro e wy3 ⟨rfl, hb⟩
        replace HM := Lib.hid (show Mem w [rdE Ql Qh A5 64 Y, blkE wa2.heap.size 30 (mt2.map u8v), rdE wb1.heap.size wa2.heap.size A2 92 X2, blkE wa1.heap.size 30 (mt1.map u8v), rdE w1.heap.size wa1.heap.size A1 148 X1, blkE (w.heap.size + 1 + 1 + 1 + 1) 52 (nn.map u8v), blkE (w.heap.size + 1 + 1 + 1) 37 m2.cells, blkE (w.heap.size + 1 + 1) 35 m1.cells, blkE (w.heap.size + 1) 30 (ck.map u8v), blkE w.heap.size 23 (p.map u8v)] wy3 from HM.out.below hb)
        clear hop hb
        go_wp2_with fail
        refine hK.out _ _ (HM.out) (fun hHeld => ?_)
        clear hK K
        (try simp only [Act.put, List.setIfInBounds_toArray, List.set_cons_zero, List.set_cons_succ])
        refine take_first (v := ?_) 9 rfl (by kernel_rfl) (by kernel_rfl) (by kernel_rfl) (fun _ _ _ h => h) (Or.inl ⟨by rfl, ?_⟩) (by assumption) ?_
        rotate_left
        · (intro w hSw; (try dsimp only at hSw); go_simp; try with_reducible rfl)
        (try simp only [Act.put, List.setIfInBounds_toArray, List.set_cons_zero, List.set_cons_succ])
        refine take_first (v := ?_) 10 rfl (by kernel_rfl) (by kernel_rfl) (by kernel_rfl) (fun _ _ _ h => h) (Or.inl ⟨by rfl, ?_⟩) (by assumption) ?_
        rotate_left
        · (intro w hSw; (try dsimp only at hSw); go_simp; try with_reducible rfl)
        (try simp only [Act.put, List.setIfInBounds_toArray, List.set_cons_zero, List.set_cons_succ])
        refine take_first (v := ?_) 11 rfl (by kernel_rfl) (by kernel_rfl) (by kernel_rfl) (fun _ _ _ h => h) (Or.inl ⟨by rfl, ?_⟩) (by assumption) ?_
        rotate_left
        · (intro w hSw; (try dsimp only at hSw); go_simp; try with_reducible rfl)
        (try simp only [Act.put, List.setIfInBounds_toArray, List.set_cons_zero, List.set_cons_succ])
        refine step_one 12 rfl (by kernel_rfl) (fun K hK => ?_)
        clear hHeld
        go_simp
        replace HM := Lib.hid (show Mem w [blkE wy3.heap.size 30 (((List.replicate 16 (0 : UInt8)).map u8v)), rdE Ql Qh A5 64 Y, blkE wa2.heap.size 30 (mt2.map u8v), rdE wb1.heap.size wa2.heap.size A2 92 X2, blkE wa1.heap.size 30 (mt1.map u8v), rdE w1.heap.size wa1.heap.size A1 148 X1, blkE (w.heap.size + 1 + 1 + 1 + 1) 52 (nn.map u8v), blkE (w.heap.size + 1 + 1 + 1) 37 m2.cells, blkE (w.heap.size + 1 + 1) 35 m1.cells, blkE (w.heap.size + 1) 30 (ck.map u8v), blkE w.heap.size 23 (p.map u8v)] (wy3.alloc (.cells #[.int .u8 0, .int .u8 0, .int .u8 0, .int .u8 0, .int .u8 0, .int .u8 0, .int .u8 0, .int .u8 0, .int .u8 0, .int .u8 0, .int .u8 0, .int .u8 0, .int .u8 0, .int .u8 0, .int .u8 0, .int .u8 0] 30)) from HM.out.alloc rfl 30 #[.int .u8 0, .int .u8 0, .int .u8 0, .int .u8 0, .int .u8 0, .int .u8 0, .int .u8 0, .int .u8 0, .int .u8 0, .int .u8 0, .int .u8 0, .int .u8 0, .int .u8 0, .int .u8 0, .int .u8 0, .int .u8 0] (((List.replicate 16 (0 : UInt8)).map u8v)) rfl)
        generalize wy3.alloc (.cells #[.int .u8 0, .int .u8 0, .int .u8 0, .int .u8 0, .int .u8 0, .int .u8 0, .int .u8 0, .int .u8 0, .int .u8 0, .int .u8 0, .int .u8 0, .int .u8 0, .int .u8 0, .int .u8 0, .int .u8 0, .int .u8 0] 30) = wy4 at HM ⊢
        generalize wy3.heap.size = P17 at HM ⊢
        refine hK.out _ _ ((HM.out.erase 0)) (fun hHeld => ?_)
        clear hK K
        (try simp only [Act.put, List.setIfInBounds_toArray, List.set_cons_zero, List.set_cons_succ])
        refine step_one 13 rfl (by kernel_rfl) (fun K hK => ?_)
        clear hHeld
        refine step_store_blk _ rfl 30 (.tmp 17) (.tmp 47) rfl P17 (ck.map u8v) rfl (by show Value.agg cc = _; rw [HCC.out]) 30 ((List.replicate 16 (0 : UInt8)).map u8v) (HM.out.blk 0 rfl) (ae_cellsT ck HK.out) (by rw [List.length_map, List.length_map, HK.out]; rfl) (u8v_one _) ?_
        intro wy5 hb hg
        replace HM := Lib.hid (show Mem w [blkE P17 30 (ck.map u8v), rdE Ql Qh A5 64 Y, blkE wa2.heap.size 30 (mt2.map u8v), rdE wb1.heap.size wa2.heap.size A2 92 X2, blkE wa1.heap.size 30 (mt1.map u8v), rdE w1.heap.size wa1.heap.size A1 148 X1, blkE (w.heap.size + 1 + 1 + 1 + 1) 52 (nn.map u8v), blkE (w.heap.size + 1 + 1 + 1) 37 m2.cells, blkE (w.heap.size + 1 + 1) 35 m1.cells, blkE (w.heap.size + 1) 30 (ck.map u8v), blkE w.heap.size 23 (p.map u8v)] wy5 from HM.out.put 0 rfl _ hg hb)
        clear hb hg
        refine hK.out _ _ ((HM.out.erase 0)) (fun hHeld => ?_)
        clear hK K
        (try simp only [Act.put])
        refine take_first (v := ?_) 14 rfl (by kernel_rfl) (by kernel_rfl) (by kernel_rfl) (fun _ _ _ h => h) (Or.inl ⟨by rfl, ?_⟩) (by assumption) ?_
        rotate_left
        · (intro w hSw; (try dsimp only at hSw); go_simp; try with_reducible rfl)
        (try simp only [Act.put, List.setIfInBounds_toArray, List.set_cons_zero, List.set_cons_succ])
        refine wpAnyH_done (by kernel_rfl) ?_ _
        go_wp2_with fail
        go_meet
        exact ⟨P17, rfl, rfl, (HM.out.erase 1)⟩
      · clear hHeld
        go_simp
        replace HM := Lib.hid (show Mem w [blkE wy2.heap.size 30 (((List.replicate 16 (0 : UInt8)).map u8v)), rdE Ql Qh A5 64 Y, blkE wa2.heap.size 30 (mt2.map u8v), rdE wb1.heap.size wa2.heap.size A2 92 X2, blkE wa1.heap.size 30 (mt1.map u8v), rdE w1.heap.size wa1.heap.size A1 148 X1, blkE (w.heap.size + 1 + 1 + 1 + 1) 52 (nn.map u8v), blkE (w.heap.size + 1 + 1 + 1) 37 m2.cells, blkE (w.heap.size + 1 + 1) 35 m1.cells, blkE (w.heap.size + 1) 30 (ck.map u8v), blkE w.heap.size 23 (p.map u8v)] (wy2.alloc (.cells #[.int .u8 0, .int .u8 0, .int .u8 0, .int .u8 0, .int .u8 0, .int .u8 0, .int .u8 0, .int .u8 0, .int .u8 0, .int .u8 0, .int .u8 0, .int .u8 0, .int .u8 0, .int .u8 0, .int .u8 0, .int .u8 0] 30)) from HM.out.alloc rfl 30 #[.int .u8 0, .int .u8 0, .int .u8 0, .int .u8 0, .int .u8 0, .int .u8 0, .int .u8 0, .int .u8 0, .int .u8 0, .int .u8 0, .int .u8 0, .int .u8 0, .int .u8 0, .int .u8 0, .int .u8 0, .int .u8 0] (((List.replicate 16 (0 : UInt8)).map u8v)) rfl)
        generalize wy2.alloc (.cells #[.int .u8 0, .int .u8 0, .int .u8 0, .int .u8 0, .int .u8 0, .int .u8 0, .int .u8 0, .int .u8 0, .int .u8 0, .int .u8 0, .int .u8 0, .int .u8 0, .int .u8 0, .int .u8 0, .int .u8 0, .int .u8 0] 30) = wy3 at HM ⊢
        generalize wy2.heap.size = P17 at HM ⊢
        refine hK.out _ _ ((HM.out.erase 0)) (fun hHeld => ?_)
        clear hK K
        (try simp only [Act.put, List.setIfInBounds_toArray, List.set_cons_zero, List.set_cons_succ])
        refine step_one 8 rfl (by kernel_rfl) (fun K hK => ?_)
        clear hHeld
        go_simp
        have hop := HOP.out A5 64 c5 Y HA5.out.1 HA5.out.2 (by omega) _ (HLV.out.below HM.out.bel) (HM.out.rd 1 rfl)
        rw [HOY.out, HCC.out] at hop
        refine hop.mono ?_
        rintro e wy4 ⟨rfl, hb⟩
        replace HM := Lib.hid (show Mem w [blkE P17 30 (((List.replicate 16 (0 : UInt8)).map u8v)), rdE Ql Qh A5 64 Y, blkE wa2.heap.size 30 (mt2.map u8v), rdE wb1.heap.size wa2.heap.size A2 92 X2, blkE wa1.heap.size 30 (mt1.map u8v), rdE w1.heap.size wa1.heap.size A1 148 X1, blkE (w.heap.size + 1 + 1 + 1 + 1) 52 (nn.map u8v), blkE (w.heap.size + 1 + 1 + 1) 37 m2.cells, blkE (w.heap.size + 1 + 1) 35 m1.cells, blkE (w.heap.size + 1) 30 (ck.map u8v), blkE w.heap.size 23 (p.map u8v)] wy4 from HM.out.below hb)
        clear hop hb
        go_wp2_with fail
        refine hK.out _ _ ((HM.out.erase 0)) (fun hHeld => ?_)
        clear hK K
        (try simp only [Act.put, List.setIfInBounds_toArray, List.set_cons_zero, List.set_cons_succ])
        refine take_first (v := ?_) 9 rfl (by kernel_rfl) (by kernel_rfl) (by kernel_rfl) (fun _ _ _ h => h) (Or.inl ⟨by rfl, ?_⟩) (by assumption) ?_
        rotate_left
        · (intro w hSw; (try dsimp only at hSw); go_simp; try with_reducible rfl)
        (try simp only [Act.put, List.setIfInBounds_toArray, List.set_cons_zero, List.set_cons_succ])
        refine take_first (v := ?_) 10 rfl (by kernel_rfl) (by kernel_rfl) (by kernel_rfl) (fun _ _ _ h => h) (Or.inl ⟨by rfl, ?_⟩) (by assumption) ?_
        rotate_left
        · (intro w hSw; (try dsimp only at hSw); go_simp; try with_reducible rfl)
        (try simp only [Act.put, List.setIfInBounds_toArray, List.set_cons_zero, List.set_cons_succ])
        refine take_first (v := ?_) 11 rfl (by kernel_rfl) (by kernel_rfl) (by kernel_rfl) (fun _ _ _ h => h) (Or.inl ⟨by rfl, ?_⟩) (by assumption) ?_
        rotate_left
        · (intro w hSw; (try dsimp only at hSw); go_simp; try with_reducible rfl)
        (try simp only [Act.put, List.setIfInBounds_toArray, List.set_cons_zero, List.set_cons_succ])
        refine step_one 13 rfl (by kernel_rfl) (fun K hK => ?_)
        clear hHeld
        refine step_store_blk _ rfl 30 (.tmp 17) (.tmp 47) rfl P17 (ck.map u8v) rfl (by show Value.agg cc = _; rw [HCC.out]) 30 ((List.replicate 16 (0 : UInt8)).map u8v) (HM.out.blk 0 rfl) (ae_cellsT ck HK.out) (by rw [List.length_map, List.length_map, HK.out]; rfl) (u8v_one _) ?_
        intro wy5 hb hg
        replace HM := Lib.hid (show Mem w [blkE P17 30 (ck.map u8v), rdE Ql Qh A5 64 Y, blkE wa2.heap.size 30 (mt2.map u8v), rdE wb1.heap.size wa2.heap.size A2 92 X2, blkE wa1.heap.size 30 (mt1.map u8v), rdE w1.heap.size wa1.heap.size A1 148 X1, blkE (w.heap.size + 1 + 1 + 1 + 1) 52 (nn.map u8v), blkE (w.heap.size + 1 + 1 + 1) 37 m2.cells, blkE (w.heap.size + 1 + 1) 35 m1.cells, blkE (w.heap.size + 1) 30 (ck.map u8v), blkE w.heap.size 23 (p.map u8v)] wy5 from HM.out.put 0 rfl _ hg hb)
        clear hb hg
        refine hK.out _ _ ((HM.out.erase 0)) (fun hHeld => ?_)
        clear hK K
        (try simp only [Act.put])
        refine take_first (v := ?_) 14 rfl (by kernel_rfl) (by kernel_rfl) (by kernel_rfl) (fun _ _ _ h => h) (Or.inl ⟨by rfl, ?_⟩) (by assumption) ?_
        rotate_left
        · (intro w hSw; (try dsimp only at hSw); go_simp; try with_reducible rfl)
        (try simp only [Act.put, List.setIfInBounds_toArray, List.set_cons_zero, List.set_cons_succ])
        refine wpAnyH_done (by kernel_rfl) ?_ _
        go_wp2_with fail
        go_meet
        exact ⟨P17, rfl, rfl, (HM.out.erase 1)⟩
    · clear hHeld
      go_simp
      replace HM := Lib.hid (show Mem w [blkE wd1.heap.size 30 (((List.replicate 16 (0 : UInt8)).map u8v)), blkE wa2.heap.size 30 (mt2.map u8v), rdE wb1.heap.size wa2.heap.size A2 92 X2, blkE wa1.heap.size 30 (mt1.map u8v), rdE w1.heap.size wa1.heap.size A1 148 X1, blkE (w.heap.size + 1 + 1 + 1 + 1) 52 (nn.map u8v), blkE (w.heap.size + 1 + 1 + 1) 37 m2.cells, blkE (w.heap.size + 1 + 1) 35 m1.cells, blkE (w.heap.size + 1) 30 (ck.map u8v), blkE w.heap.size 23 (p.map u8v)] (wd1.alloc (.cells #[.int .u8 0, .int .u8 0, .int .u8 0, .int .u8 0, .int .u8 0, .int .u8 0, .int .u8 0, .int .u8 0, .int .u8 0, .int .u8 0, .int .u8 0, .int .u8 0, .int .u8 0, .int .u8 0, .int .u8 0, .int .u8 0] 30)) from HM.out.alloc rfl 30 #[.int .u8 0, .int .u8 0, .int .u8 0, .int .u8 0, .int .u8 0, .int .u8 0, .int .u8 0, .int .u8 0, .int .u8 0, .int .u8 0, .int .u8 0, .int .u8 0, .int .u8 0, .int .u8 0, .int .u8 0, .int .u8 0] (((List.replicate 16 (0 : UInt8)).map u8v)) rfl)
      generalize wd1.alloc (.cells #[.int .u8 0, .int .u8 0, .int .u8 0, .int .u8 0, .int .u8 0, .int .u8 0, .int .u8 0, .int .u8 0, .int .u8 0, .int .u8 0, .int .u8 0, .int .u8 0, .int .u8 0, .int .u8 0, .int .u8 0, .int .u8 0] 30) = wy2 at HM ⊢
      generalize wd1.heap.size = P17 at HM ⊢
      refine hK.out _ _ ((HM.out.erase 0)) (fun hHeld => ?_)
      clear hK K
      (try simp only [Act.put, List.setIfInBounds_toArray, List.set_cons_zero, List.set_cons_succ])
      refine step_one 7 rfl (by kernel_rfl) (fun K hK => ?_)
      clear hHeld
      go_simp
      refine (HRP.out _ (HLV.out.below HM.out.bel)).mono ?_
      rintro e wy3 ⟨A5, c5, rfl, h1, h2, hr, hb⟩
      rw [show msLen 3 = 64 from rfl] at h1 hr ⊢
      replace HM := Lib.hid (show Mem w [rdE wy2.heap.size wy3.heap.size A5 64 Y, blkE P17 30 (((List.replicate 16 (0 : UInt8)).map u8v)), blkE wa2.heap.size 30 (mt2.map u8v), rdE wb1.heap.size wa2.heap.size A2 92 X2, blkE wa1.heap.size 30 (mt1.map u8v), rdE w1.heap.size wa1.heap.size A1 148 X1, blkE (w.heap.size + 1 + 1 + 1 + 1) 52 (nn.map u8v), blkE (w.heap.size + 1 + 1 + 1) 37 m2.cells, blkE (w.heap.size + 1 + 1) 35 m1.cells, blkE (w.heap.size + 1) 30 (ck.map u8v), blkE w.heap.size 23 (p.map u8v)] wy3 from HM.out.call hb (rdE wy2.heap.size wy3.heap.size A5 64 Y) rfl rfl hr)
      have HA5 := Lib.hid (show 64 ≤ c5 ∧ c5 ≤ maxLen from ⟨h1, h2⟩)
      clear hr hb h1 h2
      generalize wy3.heap.size = Qh at HM
      generalize wy2.heap.size = Ql at HM
      go_wp2_with fail
      refine hK.out _ _ (((HM.out.erase 0).erase 0)) (fun hHeld => ?_)
      clear hK K
      (try simp only [Act.put, List.setIfInBounds_toArray, List.set_cons_zero, List.set_cons_succ])
      refine wpAnyH_stronger (T := fun W' => Mem w [rdE Ql Qh A5 64 Y, blkE wa2.heap.size 30 (mt2.map u8v), rdE wb1.heap.size wa2.heap.size A2 92 X2, blkE wa1.heap.size 30 (mt1.map u8v), rdE w1.heap.size wa1.heap.size A1 148 X1, blkE (w.heap.size + 1 + 1 + 1 + 1) 52 (nn.map u8v), blkE (w.heap.size + 1 + 1 + 1) 37 m2.cells, blkE (w.heap.size + 1 + 1) 35 m1.cells, blkE (w.heap.size + 1) 30 (ck.map u8v), blkE w.heap.size 23 (p.map u8v)] W') (fun _ h' => h'.erase 0) _ _ _ _ ?_
      replace hHeld := (HM.out.erase 1)
      refine step_one 8 rfl (by kernel_rfl) (fun K hK => ?_)
      clear hHeld
      go_simp
      have hop := HOP.out A5 64 c5 Y HA5.out.1 HA5.out.2 (by omega) _ (HLV.out.below HM.out.bel) (HM.out.rd 0 rfl)
      rw [HOY.out, HCC.out] at hop
      refine hop.mono ?_
      rintro e wy4 ⟨rfl, hb⟩
      replace HM := Lib.hid (show Mem w [rdE Ql Qh A5 64 Y, blkE P17 30 (((List.replicate 16 (0 : UInt8)).map u8v)), blkE wa2.heap.size 30 (mt2.map u8v), rdE wb1.heap.size wa2.heap.size A2 92 X2, blkE wa1.heap.size 30 (mt1.map u8v), rdE w1.heap.size wa1.heap.size A1 148 X1, blkE (w.heap.size + 1 + 1 + 1 + 1) 52 (nn.map u8v), blkE (w.heap.size + 1 + 1 + 1) 37 m2.cells, blkE (w.heap.size + 1 + 1) 35 m1.cells, blkE (w.heap.size + 1) 30 (ck.map u8v), blkE w.heap.size 23 (p.map u8v)] wy4 from HM.out.below hb)
      clear hop hb
      go_wp2_with fail
      refine hK.out _ _ ((HM.out.erase 1)) (fun hHeld => ?_)
      clear hK K
      (try simp only [Act.put, List.setIfInBounds_toArray, List.set_cons_zero, List.set_cons_succ])
      refine take_first (v := ?_) 9 rfl (by kernel_rfl) (by kernel_rfl) (by kernel_rfl) (fun _ _ _ h => h) (Or.inl ⟨by rfl, ?_⟩) (by assumption) ?_
      rotate_left
      · (intro w hSw; (try dsimp only at hSw); go_simp; try with_reducible rfl)
      (try simp only [Act.put, List.setIfInBounds_toArray, List.set_cons_zero, List.set_cons_succ])
      refine take_first (v := ?_) 10 rfl (by kernel_rfl) (by kernel_rfl) (by kernel_rfl) (fun _ _ _ h => h) (Or.inl ⟨by rfl, ?_⟩) (by assumption) ?_
      rotate_left
      · (intro w hSw; (try dsimp only at hSw); go_simp; try with_reducible rfl)
      (try simp only [Act.put, List.setIfInBounds_toArray, List.set_cons_zero, List.set_cons_succ])
      refine take_first (v := ?_) 11 rfl (by kernel_rfl) (by kernel_rfl) (by kernel_rfl) (fun _ _ _ h => h) (Or.inl ⟨by rfl, ?_⟩) (by assumption) ?_
      rotate_left
      · (intro w hSw; (try dsimp only at hSw); go_simp; try with_reducible rfl)
      (try simp only [Act.put, List.setIfInBounds_toArray, List.set_cons_zero, List.set_cons_succ])
      refine step_one 13 rfl (by kernel_rfl) (fun K hK => ?_)
      clear hHeld
      refine step_store_blk _ rfl 30 (.tmp 17) (.tmp 47) rfl P17 (ck.map u8v) rfl (by show Value.agg cc = _; rw [HCC.out]) 30 ((List.replicate 16 (0 : UInt8)).map u8v) (HM.out.blk 1 rfl) (ae_cellsT ck HK.out) (by rw [List.length_map, List.length_map, HK.out]; rfl) (u8v_one _) ?_
      intro wy5 hb hg
      replace HM := Lib.hid (show Mem w [rdE Ql Qh A5 64 Y, blkE P17 30 (ck.map u8v), blkE wa2.heap.size 30 (mt2.map u8v), rdE wb1.heap.size wa2.heap.size A2 92 X2, blkE wa1.heap.size 30 (mt1.map u8v), rdE w1.heap.size wa1.heap.size A1 148 X1, blkE (w.heap.size + 1 + 1 + 1 + 1) 52 (nn.map u8v), blkE (w.heap.size + 1 + 1 + 1) 37 m2.cells, blkE (w.heap.size + 1 + 1) 35 m1.cells, blkE (w.heap.size + 1) 30 (ck.map u8v), blkE w.heap.size 23 (p.map u8v)] wy5 from HM.out.put 1 rfl _ hg hb)
      clear hb hg
      refine hK.out _ _ ((HM.out.erase 1)) (fun hHeld => ?_)
      clear hK K
      (try simp only [Act.put])
      refine take_first (v := ?_) 14 rfl (by kernel_rfl) (by kernel_rfl) (by kernel_rfl) (fun _ _ _ h => h) (Or.inl ⟨by rfl, ?_⟩) (by assumption) ?_
      rotate_left
      · (intro w hSw; (try dsimp only at hSw); go_simp; try with_reducible rfl)
      (try simp only [Act.put, List.setIfInBounds_toArray, List.set_cons_zero, List.set_cons_succ])
      refine wpAnyH_done (by kernel_rfl) ?_ _
      go_wp2_with fail
      go_meet
      exact ⟨P17, rfl, rfl, (HM.out.erase 0)⟩
  case rest =>
    clear HM
    revert wc
    intro w3 hcut
    obtain ⟨P17, rfl, rfl, hM⟩ := hcut
    have HM := Lib.hid hM
    clear hM
    go_wp2_with fail
    have hd := HD1.out A1 148 c1 X1 HA1.out.1 HA1.out.2 (by omega) _ (HM.out.rd 4 rfl)
    rw [HDE1.out] at hd
    refine hd.mono ?_
    rintro e wq1 ⟨rfl, hb⟩
    replace HM := Lib.hid (HM.out.below hb)
    clear hb hd
    rw [HCS1.out]
    have HMZ := Lib.hid (show Mem w [blkE wq1.heap.size 35 (msg0 1).cells, blkE P17 30 (ck.map u8v), blkE wa2.heap.size 30 (mt2.map u8v), rdE wb1.heap.size wa2.heap.size A2 92 X2, blkE wa1.heap.size 30 (mt1.map u8v), rdE w1.heap.size wa1.heap.size A1 148 X1, blkE (w.heap.size + 1 + 1 + 1 + 1) 52 (nn.map u8v), blkE (w.heap.size + 1 + 1 + 1) 37 m2.cells, blkE (w.heap.size + 1 + 1) 35 m1.cells, blkE (w.heap.size + 1) 30 (ck.map u8v), blkE w.heap.size 23 (p.map u8v)] (wq1.alloc (.cells zc1 35)) from HM.out.alloc rfl 35 zc1 (msg0 1).cells (by kernel_rfl))
    clear HM
    go_upto_region 5 with (refine wpList_store_blk rfl 35 (.tmp 19) (.tmp 52) rfl wq1.heap.size s1.cells rfl (by show Value.agg cs1 = _; rw [HCS1.out]) 35 (msg0 1).cells (HMZ.out.blk 0 rfl) HUS1.out HLS1.out (MsgM.one _) ?_; intro we1 hb5 hg5)
    (try simp only [Act.put])
    have HM := Lib.hid (show Mem w [blkE wq1.heap.size 35 s1.cells, blkE P17 30 (ck.map u8v), blkE wa2.heap.size 30 (mt2.map u8v), rdE wb1.heap.size wa2.heap.size A2 92 X2, blkE wa1.heap.size 30 (mt1.map u8v), rdE w1.heap.size wa1.heap.size A1 148 X1, blkE (w.heap.size + 1 + 1 + 1 + 1) 52 (nn.map u8v), blkE (w.heap.size + 1 + 1 + 1) 37 m2.cells, blkE (w.heap.size + 1 + 1) 35 m1.cells, blkE (w.heap.size + 1) 30 (ck.map u8v), blkE w.heap.size 23 (p.map u8v)] we1 from HMZ.out.put 0 rfl _ hg5 hb5)
    clear hb5 hg5 HMZ
    go_wp2_with fail
    have hd := HD2.out A2 92 c2 X2 HA2.out.1 HA2.out.2 (by omega) _ (HM.out.rd 3 rfl)
    rw [HDE2.out] at hd
    refine hd.mono ?_
    rintro e wq2 ⟨rfl, hb⟩
    replace HM := Lib.hid (HM.out.below hb)
    clear hb hd
    rw [HCS2.out]
    have HMZ := Lib.hid (show Mem w [blkE wq2.heap.size 37 (msg0 2).cells, blkE wq1.heap.size 35 s1.cells, blkE P17 30 (ck.map u8v), blkE wa2.heap.size 30 (mt2.map u8v), rdE wb1.heap.size wa2.heap.size A2 92 X2, blkE wa1.heap.size 30 (mt1.map u8v), rdE w1.heap.size wa1.heap.size A1 148 X1, blkE (w.heap.size + 1 + 1 + 1 + 1) 52 (nn.map u8v), blkE (w.heap.size + 1 + 1 + 1) 37 m2.cells, blkE (w.heap.size + 1 + 1) 35 m1.cells, blkE (w.heap.size + 1) 30 (ck.map u8v), blkE w.heap.size 23 (p.map u8v)] (wq2.alloc (.cells zc2 37)) from HM.out.alloc rfl 37 zc2 (msg0 2).cells (by kernel_rfl))
    clear HM
    go_upto_region 6 with (refine wpList_store_blk rfl 37 (.tmp 21) (.tmp 57) rfl wq2.heap.size s2.cells rfl (by show Value.agg cs2 = _; rw [HCS2.out]) 37 (msg0 2).cells (HMZ.out.blk 0 rfl) HUS2.out HLS2.out (MsgM.one _) ?_; intro we2 hb5 hg5)
    (try simp only [Act.put])
    have HM := Lib.hid (show Mem w [blkE wq2.heap.size 37 s2.cells, blkE wq1.heap.size 35 s1.cells, blkE P17 30 (ck.map u8v), blkE wa2.heap.size 30 (mt2.map u8v), rdE wb1.heap.size wa2.heap.size A2 92 X2, blkE wa1.heap.size 30 (mt1.map u8v), rdE w1.heap.size wa1.heap.size A1 148 X1, blkE (w.heap.size + 1 + 1 + 1 + 1) 52 (nn.map u8v), blkE (w.heap.size + 1 + 1 + 1) 37 m2.cells, blkE (w.heap.size + 1 + 1) 35 m1.cells, blkE (w.heap.size + 1) 30 (ck.map u8v), blkE w.heap.size 23 (p.map u8v)] we2 from HMZ.out.put 0 rfl _ hg5 hb5)
    clear hb5 hg5 HMZ
    refine wp_region_held_drew (S := fun W' => Mem w [blkE wq2.heap.size 37 s2.cells, blkE wq1.heap.size 35 s1.cells, blkE P17 30 (ck.map u8v), blkE wa2.heap.size 30 (mt2.map u8v), rdE wb1.heap.size wa2.heap.size A2 92 X2, blkE wa1.heap.size 30 (mt1.map u8v), rdE w1.heap.size wa1.heap.size A1 148 X1, blkE (w.heap.size + 1 + 1 + 1 + 1) 52 (nn.map u8v), blkE (w.heap.size + 1 + 1 + 1) 37 m2.cells, blkE (w.heap.size + 1) 30 (ck.map u8v), blkE w.heap.size 23 (p.map u8v)] W') (by kernel_rfl) (((HM.out.erase 9)).drew) (fun hHeld => ?_)
    replace HM := Lib.hid HM.out.drew
    generalize we2.drew = wd1 at HM hHeld ⊢
    refine take_first (v := ?_) 0 rfl (by kernel_rfl) (by kernel_rfl) (by kernel_rfl) (fun _ _ _ h => h) (Or.inl ⟨by rfl, ?_⟩) (by assumption) ?_
    rotate_left
    · (intro w hSw; (try dsimp only at hSw); go_simp; try with_reducible rfl)
    (try simp only [Act.put, List.setIfInBounds_toArray, List.set_cons_zero, List.set_cons_succ])
    refine take_first (v := .agg ct1) 1 rfl (by kernel_rfl) (by kernel_rfl) (by kernel_rfl) (fun _ _ _ h => h) (by rw [← HCT1.out]; exact yields_load_obj (by rfl) 30 (.tmp 59) rfl wq1.heap.size 109 rfl (mt1.map u8v) (fun w' hb => by have h := (Mem.blk hb 1 rfl).sub 109 16; rw [HSEG1.out.1] at h; exact h) _ Tryd.underlying30 rfl (ae_cellsT mt1 HMT1.out)) (by assumption) ?_
    (try simp only [Act.put, List.setIfInBounds_toArray, List.set_cons_zero, List.set_cons_succ])
    refine take_first (v := ?_) 2 rfl (by kernel_rfl) (by kernel_rfl) (by kernel_rfl) (fun _ _ _ h => h) (Or.inl ⟨by rfl, ?_⟩) (by assumption) ?_
    rotate_left
    · (intro w hSw; (try dsimp only at hSw); go_simp; try with_reducible rfl)
    (try simp only [Act.put, List.setIfInBounds_toArray, List.set_cons_zero, List.set_cons_succ])
    refine take_first (v := .agg cn1) 3 rfl (by kernel_rfl) (by kernel_rfl) (by kernel_rfl) (fun _ _ _ h => h) (by rw [← HCN1.out]; exact yields_load_obj (by rfl) 30 (.tmp 61) rfl wq1.heap.size 125 rfl (n1.map u8v) (fun w' hb => by have h := (Mem.blk hb 1 rfl).sub 125 16; rw [HSEG1.out.2] at h; exact h) _ Tryd.underlying30 rfl (ae_cellsT n1 HN1.out)) (by assumption) ?_
    (try simp only [Act.put, List.setIfInBounds_toArray, List.set_cons_zero, List.set_cons_succ])
    refine take_first (v := ?_) 4 rfl (by kernel_rfl) (by kernel_rfl) (by kernel_rfl) (fun _ _ _ h => h) (Or.inl ⟨by rfl, ?_⟩) (by assumption) ?_
    rotate_left
    · (intro w hSw; (try dsimp only at hSw); go_simp; try with_reducible rfl)
    (try simp only [Act.put, List.setIfInBounds_toArray, List.set_cons_zero, List.set_cons_succ])
    refine step_one 5 rfl (by kernel_rfl) (fun K hK => ?_)
    clear hHeld
    refine step_store_obj rfl 30 (.tmp 63) (.tmp 60) rfl (w.heap.size + 1 + 1) 109 (mt1.map u8v) rfl (by show Value.agg ct1 = _; rw [HCT1.out]) 35 m1.cells (HM.out.blk 9 rfl) (ae_cellsT mt1 HMT1.out) (by rw [List.length_map, HMT1.out]; exact HLE1.out.1) (u8v_one _) ?_
    intro wy2 hb hg
    replace HM := Lib.hid (show Mem w [blkE wq2.heap.size 37 s2.cells, blkE wq1.heap.size 35 s1.cells, blkE P17 30 (ck.map u8v), blkE wa2.heap.size 30 (mt2.map u8v), rdE wb1.heap.size wa2.heap.size A2 92 X2, blkE wa1.heap.size 30 (mt1.map u8v), rdE w1.heap.size wa1.heap.size A1 148 X1, blkE (w.heap.size + 1 + 1 + 1 + 1) 52 (nn.map u8v), blkE (w.heap.size + 1 + 1 + 1) 37 m2.cells, blkE (w.heap.size + 1 + 1) 35 (setL m1.cells 109 (mt1.map u8v)), blkE (w.heap.size + 1) 30 (ck.map u8v), blkE w.heap.size 23 (p.map u8v)] wy2 from HM.out.put 9 rfl _ hg hb)
    clear hb hg
    refine hK.out _ _ ((HM.out.erase 9)) (fun hHeld => ?_)
    clear hK K
    (try simp only [Act.put])
    refine take_first (v := ?_) 6 rfl (by kernel_rfl) (by kernel_rfl) (by kernel_rfl) (fun _ _ _ h => h) (Or.inl ⟨by rfl, ?_⟩) (by assumption) ?_
    rotate_left
    · (intro w hSw; (try dsimp only at hSw); go_simp; try with_reducible rfl)
    (try simp only [Act.put, List.setIfInBounds_toArray, List.set_cons_zero, List.set_cons_succ])
    refine step_one 7 rfl (by kernel_rfl) (fun K hK => ?_)
    clear hHeld
    refine step_store_obj rfl 30 (.tmp 64) (.tmp 62) rfl (w.heap.size + 1 + 1) 125 (n1.map u8v) rfl (by show Value.agg cn1 = _; rw [HCN1.out]) 35 (setL m1.cells 109 (mt1.map u8v)) (HM.out.blk 9 rfl) (ae_cellsT n1 HN1.out) (by rw [List.length_map, HN1.out]; exact HLE1.out.2) (u8v_one _) ?_
    intro wy3 hb hg
    rw [HSET1.out] at hb
    replace HM := Lib.hid (show Mem w [blkE wq2.heap.size 37 s2.cells, blkE wq1.heap.size 35 s1.cells, blkE P17 30 (ck.map u8v), blkE wa2.heap.size 30 (mt2.map u8v), rdE wb1.heap.size wa2.heap.size A2 92 X2, blkE wa1.heap.size 30 (mt1.map u8v), rdE w1.heap.size wa1.heap.size A1 148 X1, blkE (w.heap.size + 1 + 1 + 1 + 1) 52 (nn.map u8v), blkE (w.heap.size + 1 + 1 + 1) 37 m2.cells, blkE (w.heap.size + 1 + 1) 35 s1.cells, blkE (w.heap.size + 1) 30 (ck.map u8v), blkE w.heap.size 23 (p.map u8v)] wy3 from HM.out.put 9 rfl _ hg hb)
    clear hb hg
    refine hK.out _ _ ((HM.out.erase 9)) (fun hHeld => ?_)
    clear hK K
    (try simp only [Act.put])
    refine wpAnyH_done (by kernel_rfl) ?_ _
    clear hHeld
    generalize hwq : wy3 = wf1 at HM ⊢
    clear hwq
    go_upto_region 7 with fail
    refine wp_region_held_drew (S := fun W' => Mem w [blkE wq2.heap.size 37 s2.cells, blkE wq1.heap.size 35 s1.cells, blkE P17 30 (ck.map u8v), blkE wa2.heap.size 30 (mt2.map u8v), rdE wb1.heap.size wa2.heap.size A2 92 X2, blkE wa1.heap.size 30 (mt1.map u8v), rdE w1.heap.size wa1.heap.size A1 148 X1, blkE (w.heap.size + 1 + 1 + 1 + 1) 52 (nn.map u8v), blkE (w.heap.size + 1 + 1) 35 s1.cells, blkE (w.heap.size + 1) 30 (ck.map u8v), blkE w.heap.size 23 (p.map u8v)] W') (by kernel_rfl) (((HM.out.erase 8)).drew) (fun hHeld => ?_)
    replace HM := Lib.hid HM.out.drew
    generalize wf1.drew = wd1 at HM hHeld ⊢
    refine take_first (v := ?_) 0 rfl (by kernel_rfl) (by kernel_rfl) (by kernel_rfl) (fun _ _ _ h => h) (Or.inl ⟨by rfl, ?_⟩) (by assumption) ?_
    rotate_left
    · (intro w hSw; (try dsimp only at hSw); go_simp; try with_reducible rfl)
    (try simp only [Act.put, List.setIfInBounds_toArray, List.set_cons_zero, List.set_cons_succ])
    refine take_first (v := .agg ct2) 1 rfl (by kernel_rfl) (by kernel_rfl) (by kernel_rfl) (fun _ _ _ h => h) (by rw [← HCT2.out]; exact yields_load_obj (by rfl) 30 (.tmp 65) rfl wq2.heap.size 50 rfl (mt2.map u8v) (fun w' hb => by have h := (Mem.blk hb 0 rfl).sub 50 16; rw [HSEG2.out.1] at h; exact h) _ Tryd.underlying30 rfl (ae_cellsT mt2 HMT2.out)) (by assumption) ?_
    (try simp only [Act.put, List.setIfInBounds_toArray, List.set_cons_zero, List.set_cons_succ])
    refine take_first (v := ?_) 2 rfl (by kernel_rfl) (by kernel_rfl) (by kernel_rfl) (fun _ _ _ h => h) (Or.inl ⟨by rfl, ?_⟩) (by assumption) ?_
    rotate_left
    · (intro w hSw; (try dsimp only at hSw); go_simp; try with_reducible rfl)
    (try simp only [Act.put, List.setIfInBounds_toArray, List.set_cons_zero, List.set_cons_succ])
    refine take_first (v := .agg cn2) 3 rfl (by kernel_rfl) (by kernel_rfl) (by kernel_rfl) (fun _ _ _ h => h) (by rw [← HCN2.out]; exact yields_load_obj (by rfl) 30 (.tmp 67) rfl wq2.heap.size 66 rfl (n2.map u8v) (fun w' hb => by have h := (Mem.blk hb 0 rfl).sub 66 16; rw [HSEG2.out.2] at h; exact h) _ Tryd.underlying30 rfl (ae_cellsT n2 HN2.out)) (by assumption) ?_
    (try simp only [Act.put, List.setIfInBounds_toArray, List.set_cons_zero, List.set_cons_succ])
    refine take_first (v := ?_) 4 rfl (by kernel_rfl) (by kernel_rfl) (by kernel_rfl) (fun _ _ _ h => h) (Or.inl ⟨by rfl, ?_⟩) (by assumption) ?_
    rotate_left
    · (intro w hSw; (try dsimp only at hSw); go_simp; try with_reducible rfl)
    (try simp only [Act.put, List.setIfInBounds_toArray, List.set_cons_zero, List.set_cons_succ])
    refine step_one 5 rfl (by kernel_rfl) (fun K hK => ?_)
    clear hHeld
    refine step_store_obj rfl 30 (.tmp 69) (.tmp 66) rfl (w.heap.size + 1 + 1 + 1) 50 (mt2.map u8v) rfl (by show Value.agg ct2 = _; rw [HCT2.out]) 37 m2.cells (HM.out.blk 8 rfl) (ae_cellsT mt2 HMT2.out) (by rw [List.length_map, HMT2.out]; exact HLE2.out.1) (u8v_one _) ?_
    intro wy2 hb hg
    replace HM := Lib.hid (show Mem w [blkE wq2.heap.size 37 s2.cells, blkE wq1.heap.size 35 s1.cells, blkE P17 30 (ck.map u8v), blkE wa2.heap.size 30 (mt2.map u8v), rdE wb1.heap.size wa2.heap.size A2 92 X2, blkE wa1.heap.size 30 (mt1.map u8v), rdE w1.heap.size wa1.heap.size A1 148 X1, blkE (w.heap.size + 1 + 1 + 1 + 1) 52 (nn.map u8v), blkE (w.heap.size + 1 + 1 + 1) 37 (setL m2.cells 50 (mt2.map u8v)), blkE (w.heap.size + 1 + 1) 35 s1.cells, blkE (w.heap.size + 1) 30 (ck.map u8v), blkE w.heap.size 23 (p.map u8v)] wy2 from HM.out.put 8 rfl _ hg hb)
    clear hb hg
    refine hK.out _ _ ((HM.out.erase 8)) (fun hHeld => ?_)
    clear hK K
    (try simp only [Act.put])
    refine take_first (v := ?_) 6 rfl (by kernel_rfl) (by kernel_rfl) (by kernel_rfl) (fun _ _ _ h => h) (Or.inl ⟨by rfl, ?_⟩) (by assumption) ?_
    rotate_left
    · (intro w hSw; (try dsimp only at hSw); go_simp; try with_reducible rfl)
    (try simp only [Act.put, List.setIfInBounds_toArray, List.set_cons_zero, List.set_cons_succ])
    refine step_one 7 rfl (by kernel_rfl) (fun K hK => ?_)
    clear hHeld
    refine step_store_obj rfl 30 (.tmp 70) (.tmp 68) rfl (w.heap.size + 1 + 1 + 1) 66 (n2.map u8v) rfl (by show Value.agg cn2 = _; rw [HCN2.out]) 37 (setL m2.cells 50 (mt2.map u8v)) (HM.out.blk 8 rfl) (ae_cellsT n2 HN2.out) (by rw [List.length_map, HN2.out]; exact HLE2.out.2) (u8v_one _) ?_
    intro wy3 hb hg
    rw [HSET2.out] at hb
    replace HM := Lib.hid (show Mem w [blkE wq2.heap.size 37 s2.cells, blkE wq1.heap.size 35 s1.cells, blkE P17 30 (ck.map u8v), blkE wa2.heap.size 30 (mt2.map u8v), rdE wb1.heap.size wa2.heap.size A2 92 X2, blkE wa1.heap.size 30 (mt1.map u8v), rdE w1.heap.size wa1.heap.size A1 148 X1, blkE (w.heap.size + 1 + 1 + 1 + 1) 52 (nn.map u8v), blkE (w.heap.size + 1 + 1 + 1) 37 s2.cells, blkE (w.heap.size + 1 + 1) 35 s1.cells, blkE (w.heap.size + 1) 30 (ck.map u8v), blkE w.heap.size 23 (p.map u8v)] wy3 from HM.out.put 8 rfl _ hg hb)
    clear hb hg
    refine hK.out _ _ ((HM.out.erase 8)) (fun hHeld => ?_)
    clear hK K
    (try simp only [Act.put])
    refine wpAnyH_done (by kernel_rfl) ?_ _
    clear hHeld
    generalize hwq : wy3 = wf2 at HM ⊢
    clear hwq
    go_upto_region 8 with fail
    go_wp2_with (first | (refine wpList_load_obj rfl 23 (.tmp 6) rfl w.heap.size 0 rfl (p.map u8v) (HM.out.blk 11 rfl).all _ Tryd.underlying23 rfl (cells32 p HP.out) ?_; rw [HCP.out]) | (refine wpList_load_obj_g (by rfl) 23 (.tmp 6) rfl w.heap.size 0 rfl (p.map u8v) (HM.out.blk 11 rfl).all _ Tryd.underlying23 rfl (cells32 p HP.out) ?_; rw [HCP.out]) | (refine wpList_load_obj_g (by rfl) 30 (.tmp 7) rfl (w.heap.size + 1) 0 rfl (ck.map u8v) (HM.out.blk 10 rfl).all _ Tryd.underlying30 rfl (ae_cellsT ck HK.out) ?_; rw [HCC.out]))
    have hcl := HK1.out A1 148 c1 X1 HA1.out.1 HA1.out.2 (by omega) _ (HLV.out.below HM.out.bel) (HM.out.rd 6 rfl)
    rw [HV11.out] at hcl
    refine hcl.mono ?_
    rintro e wg1 ⟨rfl, hb⟩
    replace HM := Lib.hid (HM.out.below hb)
    clear hb hcl
    go_wp2_with (first | (refine wpList_load_obj rfl 23 (.tmp 6) rfl w.heap.size 0 rfl (p.map u8v) (HM.out.blk 11 rfl).all _ Tryd.underlying23 rfl (cells32 p HP.out) ?_; rw [HCP.out]) | (refine wpList_load_obj_g (by rfl) 23 (.tmp 6) rfl w.heap.size 0 rfl (p.map u8v) (HM.out.blk 11 rfl).all _ Tryd.underlying23 rfl (cells32 p HP.out) ?_; rw [HCP.out]) | (refine wpList_load_obj_g (by rfl) 30 (.tmp 7) rfl (w.heap.size + 1) 0 rfl (ck.map u8v) (HM.out.blk 10 rfl).all _ Tryd.underlying30 rfl (ae_cellsT ck HK.out) ?_; rw [HCC.out]))
    have hcl := HK2.out A1 148 c1 X1 HA1.out.1 HA1.out.2 (by omega) _ (HLV.out.below HM.out.bel) (HM.out.rd 6 rfl)
    rw [HV21.out] at hcl
    refine hcl.mono ?_
    rintro e wg2 ⟨rfl, hb⟩
    replace HM := Lib.hid (HM.out.below hb)
    clear hb hcl
    go_wp2_with (first | (refine wpList_load_obj rfl 23 (.tmp 6) rfl w.heap.size 0 rfl (p.map u8v) (HM.out.blk 11 rfl).all _ Tryd.underlying23 rfl (cells32 p HP.out) ?_; rw [HCP.out]) | (refine wpList_load_obj_g (by rfl) 23 (.tmp 6) rfl w.heap.size 0 rfl (p.map u8v) (HM.out.blk 11 rfl).all _ Tryd.underlying23 rfl (cells32 p HP.out) ?_; rw [HCP.out]) | (refine wpList_load_obj_g (by rfl) 30 (.tmp 7) rfl (w.heap.size + 1) 0 rfl (ck.map u8v) (HM.out.blk 10 rfl).all _ Tryd.underlying30 rfl (ae_cellsT ck HK.out) ?_; rw [HCC.out]))
    have hcl := HK1.out A2 92 c2 X2 HA2.out.1 HA2.out.2 (by omega) _ (HLV.out.below HM.out.bel) (HM.out.rd 4 rfl)
    rw [HV12.out] at hcl
    refine hcl.mono ?_
    rintro e wg3 ⟨rfl, hb⟩
    replace HM := Lib.hid (HM.out.below hb)
    clear hb hcl
    go_wp2_with (first | (refine wpList_load_obj rfl 23 (.tmp 6) rfl w.heap.size 0 rfl (p.map u8v) (HM.out.blk 11 rfl).all _ Tryd.underlying23 rfl (cells32 p HP.out) ?_; rw [HCP.out]) | (refine wpList_load_obj_g (by rfl) 23 (.tmp 6) rfl w.heap.size 0 rfl (p.map u8v) (HM.out.blk 11 rfl).all _ Tryd.underlying23 rfl (cells32 p HP.out) ?_; rw [HCP.out]) | (refine wpList_load_obj_g (by rfl) 30 (.tmp 7) rfl (w.heap.size + 1) 0 rfl (ck.map u8v) (HM.out.blk 10 rfl).all _ Tryd.underlying30 rfl (ae_cellsT ck HK.out) ?_; rw [HCC.out]))
    have hcl := HK2.out A2 92 c2 X2 HA2.out.1 HA2.out.2 (by omega) _ (HLV.out.below HM.out.bel) (HM.out.rd 4 rfl)
    rw [HV22.out] at hcl
    refine hcl.mono ?_
    rintro e wg4 ⟨rfl, hb⟩
    replace HM := Lib.hid (HM.out.below hb)
    clear hb hcl
    have ek := HEK.out wg4
    have et1 := HET1.out wg4
    have et2 := HET2.out wg4
    go_wp2_with (first | (refine wpList_load_obj_g (by rfl) 30 (.tmp 17) rfl P17 0 rfl (ck.map u8v) ((HM.out.blk 2 rfl).all) _ Tryd.underlying30 rfl (ae_cellsT ck HK.out) ?_; rw [HCC.out]) | (refine wpList_load_obj_g (by rfl) 35 (.tmp 19) rfl wq1.heap.size 0 rfl s1.cells ((HM.out.blk 1 rfl).all) _ Tryd.underlying35 rfl HUS1.out ?_; rw [HCS1.out]) | (refine wpList_load_obj_g (by rfl) 37 (.tmp 21) rfl wq2.heap.size 0 rfl s2.cells ((HM.out.blk 0 rfl).all) _ Tryd.underlying37 rfl HUS2.out ?_; rw [HCS2.out]) | (refine wpList_load_obj_g (by rfl) 30 (.tmp 14) rfl wa1.heap.size 0 rfl (mt1.map u8v) ((HM.out.blk 5 rfl).all) _ Tryd.underlying30 rfl (ae_cellsT mt1 HMT1.out) ?_; rw [HCT1.out]) | (refine wpList_load_obj_g (by rfl) 30 (.tmp 16) rfl wa2.heap.size 0 rfl (mt2.map u8v) ((HM.out.blk 3 rfl).all) _ Tryd.underlying30 rfl (ae_cellsT mt2 HMT2.out) ?_; rw [HCT2.out]) | (refine wpList_load_obj_g (by rfl) 30 (.tmp 118) rfl wq1.heap.size 109 rfl (mt1.map u8v) (by have h := (HM.out.blk 1 rfl).sub 109 16; rw [HSEG1.out.1] at h; exact h) _ Tryd.underlying30 rfl (ae_cellsT mt1 HMT1.out) ?_; rw [HCT1.out]) | (refine wpList_load_obj_g (by rfl) 30 (.tmp 124) rfl wq2.heap.size 50 rfl (mt2.map u8v) (by have h := (HM.out.blk 0 rfl).sub 50 16; rw [HSEG2.out.1] at h; exact h) _ Tryd.underlying30 rfl (ae_cellsT mt2 HMT2.out) ?_; rw [HCT2.out]) | (refine wpList_eql_agg (by rfl) 35 35 107 108 rfl cs1 cs1 true rfl rfl msg_noguard1 (by rw [← HCS1.out]; exact msg_same1 s1 HOK1.out _) ?_) | (refine wpList_eql_agg (by rfl) 37 37 112 113 rfl cs2 cs2 true rfl rfl msg_noguard2 (by rw [← HCS2.out]; exact msg_same2 s2 HOK2.out _) ?_) | (refine wpList_load_obj_g (by rfl) 30 (.tmp 7) rfl (w.heap.size + 1) 0 rfl (ck.map u8v) (HM.out.blk 10 rfl).all _ Tryd.underlying30 rfl (ae_cellsT ck HK.out) ?_; rw [HCC.out]) | (refine wpList_load_obj_g (by rfl) 35 (.tmp 8) rfl (w.heap.size + 1 + 1) 0 rfl s1.cells (HM.out.blk 9 rfl).all _ Tryd.underlying35 rfl HUS1.out ?_; rw [HCS1.out]) | (refine wpList_load_obj_g (by rfl) 37 (.tmp 9) rfl (w.heap.size + 1 + 1 + 1) 0 rfl s2.cells (HM.out.blk 8 rfl).all _ Tryd.underlying37 rfl HUS2.out ?_; rw [HCS2.out]))
    refine (HBG.out _ (HLV.out.below HM.out.bel)).mono ?_
    rintro e wz ⟨rfl, hb⟩
    have HF := Lib.hid (HM.out.below hb).bel
    clear hb HM
    go_wp2_with fail
    go_ret
    exact ⟨rfl, HF.out⟩
end Go.Proofs.YtlddafkikkaonaaDoor
namespace Go.Proofs.YtlddafkikkaonaaDoor
open Go.RowKit

/-- what is asked of an encoder whose bytes lie in memory of its own -/
def MsEncNC (F k : Nat) : Prop := ∀ m : MsgM, m.ok k → ∀ w : World,
  Calls Tryd.prog F #[.agg m.cells.toArray] w fun e w' => ∃ A c, e = .returned (.slice A (msLen k) c) ∧ msLen k ≤ c ∧ c ≤ maxLen ∧ RdIn w.heap.size w'.heap.size A (msLen k) (encB k m) w' ∧ Below w.heap.size w w'
end Go.Proofs.YtlddafkikkaonaaDoor
