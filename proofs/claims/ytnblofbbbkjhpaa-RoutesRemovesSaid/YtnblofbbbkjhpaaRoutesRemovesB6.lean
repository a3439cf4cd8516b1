/-
  A route between two pieces of a list of routes: what Concat gives. The contracts of inner's size and first: how many bits an address has, and an address without the bits behind the first ones. The contracts of inner's size, first and address. The contracts of inner's address, validAddress, Valid, Contains and Less. The mathematics of time stamps over lists of bytes; no function of the program is named here. The contract of bytes.Compare for two rows of bytes. The contract of inner's Less. No statement is proved here.
-/
import Derived.RegionTactic
import Derived.DeepKeys2
import Derived.Lib.BytesEntry
import Derived.Lib.Bytealg
import Derived.Laws.Externs
import Derived.Test.YtnblofbbbkjhpaaRoutesRemovesB5
namespace Go.Proofs.Ytnblofbbbkjhpaa
open Go.RowKit

theorem RdRow.ahead {W : World} {B k n : Nat} {A : Option Addr} {os : List (List Value)} (h : RdRow W B A k n os) (i c : Nat) (hi : i ≤ n) : RdRow W B (addrK A 0 c k) k i (os.take i) := by
  rcases Nat.eq_zero_or_pos i with h0 | h0
  · subst h0
    rw [List.take_zero]
    exact RdRow.nil
  · obtain ⟨b, off, rfl⟩ := h.addr (by omega)
    rw [addrK_zero_some]
    exact h.take i hi
def catV (A : Option Addr) (n c i j g1 : Nat) : List Value := [.slice (addrK A 0 c 50) i c, .slice (some ⟨g1, 0, none⟩) 1 1, .slice (addrK A j c 50) (n - j) (c - j)]
theorem cat_any (A : Option Addr) (n c i j : Nat) (l : List RouteM) (r : RouteM) (hn : n ≤ 100) (hnc : n ≤ c) (hi : i ≤ n) (hj : j ≤ n) (hok : r.ok) (g1 g2 : Nat) (t2 : TypeId) (W : World) (hr : RtRd W W.heap.size A n l) (h1 : Blk W g1 37 r.cells) (h2 : Blk W g2 t2 (catV A n c i j g1)) :
    Calls Try.prog 36 #[.slice (some ⟨g2, 0, none⟩) 3 3] W fun e w' => ∃ A' c', e = .returned (.slice A' (i + (1 + (n - j))) c') ∧ RtRd w' w'.heap.size A' (i + (1 + (n - j))) (l.take i ++ r :: l.drop j) ∧ (i + (1 + (n - j)) ≤ c' ∧ c' ≤ maxLen) ∧ Below W.heap.size W w' := by
  have hl := hr.len
  have hlen : rtLenP [((addrK A 0 c 50, i, c), rtsV (l.take i)), ((some ⟨g1, 0, none⟩, 1, 1), [r.cells]), ((addrK A j c 50, n - j, c - j), rtsV (l.drop j))] = i + (1 + (n - j)) := rfl
  have h := rtConcat_any g2 0 3 3 [((addrK A 0 c 50, i, c), rtsV (l.take i)), ((some ⟨g1, 0, none⟩, 1, 1), [r.cells]), ((addrK A j c 50, n - j, c - j), rtsV (l.drop j))] rfl (by omega) (by rw [hlen]; omega) W h2.lt h2.all (by
    intro x hx
    simp only [List.mem_cons, List.not_mem_nil, or_false] at hx
    rcases hx with rfl | rfl | rfl
    · exact ⟨by rw [← rtsV_take]; exact hr.1.ahead i c hi, rts_one _⟩
    · refine ⟨⟨rfl, fun o ho => ?_, fun _ => ⟨g1, 0, rfl, h1.lt, fun q v hq => ?_⟩⟩, fun o ho => ?_⟩
      · rw [List.mem_singleton] at ho; subst ho; exact RouteM.cells_length hok
      · rw [Nat.zero_add, h1.cell]; simpa using hq
      · rw [List.mem_singleton] at ho; subst ho; exact route_one r
    · exact ⟨by rw [← rtsV_drop]; exact hr.1.behind j c hj hnc, rts_one _⟩)
  rw [hlen] at h
  refine h.mono ?_
  rintro e w' ⟨A', c', rfl, ho, hb⟩
  obtain ⟨A9, c9, hv, hc1, hc2, -⟩ := own_sliceK ho
  injection hv with _ _ hc
  subst hc
  refine ⟨A', c', rfl, RtRd.of_own ?_ ?_ (show w'.ownsRow W.heap.size 37 50 (.slice A' (i + (1 + (n - j))) c') (i + (1 + (n - j))) (rtsV (l.take i ++ r :: l.drop j)).flatten from ?_), ⟨hc1, hc2⟩, hb⟩
  · rw [List.length_append, List.length_cons, List.length_take, List.length_drop, hl]; omega
  · intro q hq
    rcases List.mem_append.1 hq with hq | hq
    · exact hr.2 q (List.mem_of_mem_take hq)
    · rcases List.mem_cons.1 hq with rfl | hq
      · exact hok
      · exact hr.2 q (List.mem_of_mem_drop hq)
  · have e : ([((addrK A 0 c 50, i, c), rtsV (l.take i)), ((some ⟨g1, 0, none⟩, 1, 1), [r.cells]), ((addrK A j c 50, n - j, c - j), rtsV (l.drop j))] : List RtPart).flatMap (·.2) = rtsV (l.take i ++ r :: l.drop j) := by simp [rtsV]
    rw [← e]
    exact ho
theorem idxM_pref {l : List RouteM} (h : ∀ r ∈ l, r.ok) {a : AddrM} (ha : a.ok) (b : Int) : idxM (prefP a b) (rtsV l) = match findM a b l with
    | none => -1
    | some i => (i : Int) := by
  have e : (rtsV l).findIdx? (prefP a b) = findM a b l := by
    rw [rtsV, List.findIdx?_map, findM]
    have key : ∀ m : List RouteM, (∀ r ∈ m, r.ok) → m.findIdx? (prefP a b ∘ RouteM.cells) = m.findIdx? (RouteM.is a b) := by
      intro m
      induction m with
      | nil => intro _; rfl
      | cons x m ih =>
        intro hm
        rw [List.findIdx?_cons, List.findIdx?_cons, ih (fun r hr => hm r (List.mem_cons_of_mem _ hr))]
        simp only [Function.comp_apply, prefP_is ha (hm x (List.mem_cons_self ..))]
    exact key l h
  unfold idxM
  rw [e]
  all_goals (cases findM a b l <;> rfl)
end Go.Proofs.Ytnblofbbbkjhpaa
namespace Go.Proofs.Ytnblofbbbkjhpaa
open Go.RowKit

/-- a byte without the bits behind the first m -/
def cutByte (x : UInt8) (m : Nat) : UInt8 := x &&& ~~~(UInt8.ofNat (255 / 2 ^ m))
theorem cut_all : ∀ m : Fin 8, ∀ n : Fin 256, bits BinOp.andNot IntKind.u8 (n.val : Int) ((255 / 2 ^ m.val : Nat) : Int) = ((cutByte (UInt8.ofNat n.val) m.val).toNat : Int) := by decide +kernel
theorem cut_bits (x : UInt8) (m : Nat) (h : m < 8) : bits BinOp.andNot IntKind.u8 (x.toNat : Int) (255 / 2 ^ m) = ((cutByte x m).toNat : Int) := by
  have h1 := cut_all ⟨m, h⟩ ⟨x.toNat, x.toNat_lt⟩
  simp only [UInt8.ofNat_toNat] at h1
  rw [← h1, Int.natCast_ediv, Int.natCast_pow]
  rfl
theorem bit_cut_all : ∀ m : Fin 8, ∀ k : Fin 8, ∀ x : Fin 256, (cutByte (UInt8.ofNat x.val) m.val).toNat / 2 ^ (7 - k.val) % 2 = if k.val < m.val then x.val / 2 ^ (7 - k.val) % 2 else 0 := by decide +kernel
theorem bit_cut (x : UInt8) (m k : Nat) (hm : m < 8) (hk : k < 8) : (cutByte x m).toNat / 2 ^ (7 - k) % 2 = if k < m then x.toNat / 2 ^ (7 - k) % 2 else 0 := by
  have h := bit_cut_all ⟨m, hm⟩ ⟨k, hk⟩ ⟨x.toNat, x.toNat_lt⟩
  simp only [UInt8.ofNat_toNat] at h
  exact h
/-- an address without the bits behind the first k -/
def firstM (a : AddrM) (k : Nat) : AddrM := if k / 8 < 16 then ⟨a.six, (a.ip.set (k / 8) (cutByte (a.ip.getD (k / 8) 0) (k % 8))).take (k / 8 + 1) ++ List.replicate (15 - k / 8) 0⟩ else a
theorem firstM_ok (a : AddrM) (h : a.ok) (k : Nat) : (firstM a k).ok := by
  unfold firstM
  split
  · simp only [AddrM.ok, List.length_append, List.length_take, List.length_set, List.length_replicate]
    have : a.ip.length = 16 := h
    omega
  · exact h
theorem firstM_six (a : AddrM) (k : Nat) : (firstM a k).six = a.six := by unfold firstM; split <;> rfl
theorem firstM_bit (a : AddrM) (h : a.ok) (k i : Nat) (hi : i < 128) : bitM (firstM a k).ip i = if i < k then bitM a.ip i else 0 := by
  have hl : a.ip.length = 16 := h
  unfold firstM
  by_cases hk : k / 8 < 16
  · rw [if_pos hk]
    unfold bitM
    dsimp only
    rw [List.getD_eq_getElem?_getD, List.getElem?_append, List.length_take, List.length_set, List.getElem?_take]
    by_cases h1 : i / 8 < k / 8
    · rw [if_pos (by omega), if_pos (by omega), List.getElem?_set_ne (by omega), if_pos (by omega), ← List.getD_eq_getElem?_getD]
    · by_cases h2 : i / 8 = k / 8
      · rw [if_pos (by omega), if_pos (by omega), h2, List.getElem?_set_self (by omega), Option.getD_some, bit_cut _ _ _ (by omega) (by omega)]
        by_cases h3 : i % 8 < k % 8
        · rw [if_pos h3, if_pos (by omega)]
        · rw [if_neg h3, if_neg (by omega)]
      · rw [if_neg (by omega), if_neg (by omega), List.getElem?_replicate]
        split <;> simp
  · rw [if_neg hk, if_pos (by omega)]
/-- bytes whose bits are the same are the same -/
theorem byte_sum : ∀ x : Fin 256, x.val = 128 * (x.val / 2 ^ (7 - 0) % 2) + 64 * (x.val / 2 ^ (7 - 1) % 2) + 32 * (x.val / 2 ^ (7 - 2) % 2) + 16 * (x.val / 2 ^ (7 - 3) % 2) + 8 * (x.val / 2 ^ (7 - 4) % 2) + 4 * (x.val / 2 ^ (7 - 5) % 2) + 2 * (x.val / 2 ^ (7 - 6) % 2) + x.val / 2 ^ (7 - 7) % 2 := by decide +kernel
theorem byte_bits (x y : UInt8) (h : ∀ k, k < 8 → x.toNat / 2 ^ (7 - k) % 2 = y.toNat / 2 ^ (7 - k) % 2) : x = y := by
  have hx := byte_sum ⟨x.toNat, x.toNat_lt⟩
  have hy := byte_sum ⟨y.toNat, y.toNat_lt⟩
  simp only [] at hx hy
  rw [h 0 (by omega), h 1 (by omega), h 2 (by omega), h 3 (by omega), h 4 (by omega), h 5 (by omega), h 6 (by omega), h 7 (by omega), ← hy] at hx
  exact UInt8.toNat.inj hx
theorem ip_bits (l m : List UInt8) (hl : l.length = 16) (hm : m.length = 16) (h : ∀ i, i < 128 → bitM l i = bitM m i) : l = m := by
  apply List.ext_getElem (by omega)
  intro j h1 h2
  refine byte_bits _ _ (fun k hk => ?_)
  have := h (8 * j + k) (by omega)
  unfold bitM at this
  rw [show (8 * j + k) / 8 = j by omega, show (8 * j + k) % 8 = k by omega, List.getD_eq_getElem?_getD, List.getElem?_eq_getElem h1, List.getD_eq_getElem?_getD, List.getElem?_eq_getElem h2] at this
  exact this
theorem AddrM.ext_bits (a b : AddrM) (ha : a.ok) (hb : b.ok) (h6 : a.six = b.six) (h : ∀ i, i < 128 → bitM a.ip i = bitM b.ip i) : a = b := by
  have hi := ip_bits _ _ ha hb h
  cases a; cases b
  simp_all
theorem firstM_eq (a b : AddrM) (ha : a.ok) (hb : b.ok) (k : Nat) : firstM a k = b ↔ a.six = b.six ∧ ∀ i, i < 128 → (if i < k then bitM a.ip i else 0) = bitM b.ip i := by
  constructor
  · rintro rfl
    exact ⟨(firstM_six a k).symm, fun i hi => (firstM_bit a ha k i hi).symm⟩
  · rintro ⟨h6, h⟩
    exact AddrM.ext_bits _ _ (firstM_ok a ha k) hb ((firstM_six a k).trans h6) (fun i hi => (firstM_bit a ha k i hi).trans (h i hi))
theorem cells_inj (a b : AddrM) (h : a.cells = b.cells) : a = b := by
  cases a; cases b
  simp only [AddrM.cells, List.cons.injEq] at h
  obtain ⟨h1, h2⟩ := h
  injection h1 with h1
  subst h1
  congr 1
  refine List.map_inj_right ?_ |>.1 h2
  intro x y hxy
  have : ((x.toNat : Nat) : Int) = (y.toNat : Int) := by simpa [u8v] using hxy
  exact UInt8.toNat.inj (by omega)
/-- the bytes of IPv4 behind the fourth are zero exactly if the bits behind the 32nd are -/
theorem sound_first (a : AddrM) (h : a.ok) : soundM a = decide (firstM a (widthM a) = a) := by
  rw [Bool.eq_iff_iff, decide_eq_true_iff, firstM_eq a a h h]
  cases h6 : a.six with
  | true =>
    rw [soundM, h6, widthM, h6]
    simp only [Bool.true_or, true_and, true_iff, if_true]
    intro i hi
    rw [if_pos hi]
  | false =>
    rw [soundM_four a h h6, widthM, h6]
    simp only [true_and]
    constructor
    · intro hz i hi
      by_cases hlt : i < 32
      · rw [if_pos (by simpa using hlt)]
      · rw [if_neg (by simpa using hlt)]
        have := hz (i / 8 - 4) (by omega)
        rw [show 4 + (i / 8 - 4) = i / 8 by omega] at this
        rw [bitM, this]
        simp
    · intro hz j hj
      refine byte_bits _ _ (fun k hk => ?_)
      have := hz (8 * (4 + j) + k) (by omega)
      rw [if_neg (by simp; omega)] at this
      unfold bitM at this
      rw [show (8 * (4 + j) + k) / 8 = 4 + j by omega, show (8 * (4 + j) + k) % 8 = k by omega] at this
      rw [← this]
      simp
theorem valid_first (a : AddrM) (h : a.ok) (bits : Int) : validM a bits = (decide (0 ≤ bits) && (decide (bits ≤ (widthM a : Int)) && decide (firstM a bits.toNat = a))) := by
  by_cases h0 : 0 ≤ bits
  · by_cases h1 : bits ≤ (widthM a : Int)
    · rw [decide_eq_true h0, decide_eq_true h1, Bool.true_and, Bool.true_and, Bool.eq_iff_iff, decide_eq_true_iff, firstM_eq a a h h]
      constructor
      · intro hv
        have hs : soundM a = true := by rw [validM] at hv; exact (Bool.and_eq_true _ _ ▸ hv).1
        rw [validM_iff a bits hs h0 h1] at hv
        refine ⟨rfl, fun i hi => ?_⟩
        by_cases hlt : i < bits.toNat
        · rw [if_pos hlt]
        · rw [if_neg hlt, hv i (by omega) hi]
      · rintro ⟨_, hv⟩
        have hs : soundM a = true := by
          rw [sound_first a h, decide_eq_true_iff, firstM_eq a a h h]
          refine ⟨rfl, fun i hi => ?_⟩
          by_cases hlt : i < widthM a
          · rw [if_pos hlt]
          · have := hv i hi
            rw [if_neg (by omega)] at this
            rw [if_neg hlt, this]
        rw [validM_iff a bits hs h0 h1]
        intro i hb hi
        have := hv i hi
        rw [if_neg (by omega)] at this
        exact this.symm
    · rw [decide_eq_true h0, decide_eq_false h1, validM, decide_eq_true h0, decide_eq_false h1]
      simp
  · rw [decide_eq_false h0, validM, decide_eq_false h0]
    simp
theorem contains_first (a x : AddrM) (h : a.ok) (hx : x.ok) (bits : Int) : containsM a bits x = (validM a bits && (soundM x && decide (firstM x bits.toNat = a))) := by
  by_cases hv : validM a bits = true
  · by_cases hs : soundM x = true
    · rw [hv, hs, Bool.true_and, Bool.true_and]
      have hv2 := hv
      rw [valid_first a h, Bool.and_eq_true, Bool.and_eq_true, decide_eq_true_iff, decide_eq_true_iff, decide_eq_true_iff, firstM_eq a a h h] at hv2
      obtain ⟨h0, h1, _, h2⟩ := hv2
      by_cases h6 : x.six = a.six
      · rw [Bool.eq_iff_iff, containsM_iff a x bits hv hs (by rw [h6]; simp), decide_eq_true_iff, firstM_eq x a hx h]
        constructor
        · intro hc
          refine ⟨h6, fun i hi => ?_⟩
          by_cases hlt : i < bits.toNat
          · rw [if_pos hlt, hc i (by omega) hi]
          · have := h2 i hi
            rw [if_neg hlt] at this
            rw [if_neg hlt, this]
        · rintro ⟨_, hc⟩ i hb hi
          have := hc i hi
          rw [if_pos (by omega)] at this
          exact this
      · rw [containsM, hv, hs, show (x.six == a.six) = false by simpa using h6]
        simp only [Bool.true_and, Bool.false_and]
        refine (decide_eq_false fun e => h6 ?_).symm
        rw [← e, firstM_six]
    · rw [Bool.not_eq_true] at hs
      rw [hs, containsM, hs]
      simp
  · rw [Bool.not_eq_true] at hv
    rw [hv, containsM, hv]
    simp
end Go.Proofs.Ytnblofbbbkjhpaa
namespace Go.Proofs.Ytnblofbbbkjhpaa
open Go.RowKit

theorem run_clear_blk {P : Program} (w : World) (t e ty : TypeId) (ht : P.underlying t = some (.slice e)) (hv : ∀ w, (zeroValue e).run P w = .ok (.int .u8 0) w) (g off n c : Nat) (bt : TypeId) (old : List Value) (hg : Blk w g bt old) (hfit : off + n ≤ old.length) :
    ∃ w', (Builtin.clear_ #[t] ty #[.slice (some ⟨g, off, none⟩) n c]).run P w = .ok (.tuple #[]) w' ∧ Blk w' g bt (old.take off ++ List.replicate n (.int .u8 0) ++ old.drop (off + n)) ∧ w.grownBy w' (some g) := by
  cases n with
  | zero =>
    refine ⟨w, ?_, ?_, ⟨rfl, rfl, rfl, Nat.le_refl _, fun _ _ _ => rfl⟩⟩
    · simp [Builtin.clear_, run_underlying ht]
    · simp only [List.replicate_zero, List.append_nil, Nat.add_zero, List.take_append_drop]; exact hg
  | succ m =>
    have hst := run_storeCells_at P g off bt (List.replicate (m + 1) (Value.int .u8 0)) 0 old.toArray w hg (by simpa using hfit) (by intro v hv; rw [List.eq_of_mem_replicate hv]; rfl)
    rw [Nat.add_zero] at hst
    refine ⟨w.setRow g (old.toArray.toList.take off ++ List.replicate (m + 1) (Value.int .u8 0) ++ old.toArray.toList.drop (off + (List.replicate (m + 1) (Value.int .u8 0)).length)).toArray, ?_, ?_, ⟨rfl, rfl, rfl, by simp, fun k _ hk => setRow_other w g k _ (fun e => hk (by simp [e]))⟩⟩
    · have hz : (Builtin.zeroCells (Value.int .u8 0).cells (m + 1)).toList = List.replicate (m + 1) (.int .u8 0) := by
        apply List.ext_getElem
        · simp [Builtin.zeroCells, Value.cells]
        · intro i h1 h2; simp [Builtin.zeroCells, Value.cells, Nat.mod_one]
      simp only [Builtin.clear_, List.getElem?_toArray, List.getElem?_cons_zero, Sem.run_bind, run_underlying ht, Result.andThen_ok, hv, hz]
      rw [hst]
      rfl
    · have := setRow_heap w g old.toArray (old.toArray.toList.take off ++ List.replicate (m + 1) (Value.int .u8 0) ++ old.toArray.toList.drop (off + (List.replicate (m + 1) (Value.int .u8 0)).length)).toArray bt _ hg
      unfold Blk
      simpa using this
theorem wpList_clear_blk {P : Program} (w : World) {ops : Array Oper} {rest : List Oper} {o : Oper} {a : Act} {Q : Exit → Act → World → Prop} (hgd : o.guard = none) (d : Operand) (t e : TypeId)
    (ho : o.op = .call { callee := .builtin .clear, args := #[d], argTypes := #[t] }) (ht : P.underlying t = some (.slice e)) (hv : ∀ w, (zeroValue e).run P w = .ok (.int .u8 0) w)
    (g off n c : Nat) (hd : a.eval d = .slice (some ⟨g, off, none⟩) n c) (bt : TypeId) (old : List Value) (hg : Blk w g bt old) (hfit : off + n ≤ old.length)
    (h : ∀ w', Blk w' g bt (old.take off ++ List.replicate n (.int .u8 0) ++ old.drop (off + n)) → w.grownBy w' (some g) → wpList P ops Q rest (a.put o.dst (.tuple #[])) w') : wpList P ops Q (o :: rest) a w := by
  refine wpList_plain hgd fun K hK => ?_
  obtain ⟨w', hrun, h2, h3⟩ := run_clear_blk (P := P) w t e o.type ht hv g off n c bt old hg hfit
  unfold Oper.wp execOp
  simp only [ho, resolve, invoke, builtin, Sem.run_bind, Sem.run_pure, Result.andThen_ok, List.map_toArray, List.map_cons, List.map_nil, hd, hrun]
  exact hK _ _ (h w' h2 h3)

set_option maxRecDepth 100000 in
theorem size_any (a : AddrM) (w : World) :
    Calls Try.prog 50 #[.agg a.cells.toArray] w fun e w' => e = .returned (.int .i64 (widthM a : Int)) ∧ Below w.heap.size w w' := by
  obtain ⟨ca, hca⟩ : ∃ c, a.cells.toArray = c := ⟨_, rfl⟩
  rw [hca]
  have HM := Lib.hid (show Mem w [blkE w.heap.size 26 a.cells] (w.alloc (.cells ca 26)) from (Mem.nil w).alloc rfl 26 ca a.cells hca.symm)
  obtain ⟨sx, hsx⟩ : ∃ q, a.six = q := ⟨_, rfl⟩
  have HW := Lib.hid (show widthM a = if sx then 128 else 32 by rw [widthM, hsx])
  clear hca
  go_enter Try.func50, Try.ntmps50
  go_upto_region 1 with fail
  generalize w.alloc (.cells ca 26) = w1 at HM ⊢
  have f6 := ((HM.out.blk 0 rfl).cell 0).trans (AddrM.six_cell a)
  rw [hsx] at f6
  cases sx with
  | true =>
    go_wp2
    go_ret
    exact ⟨by rw [HW.out]; rfl, HM.out.bel⟩
  | false =>
    go_wp2
    go_ret
    exact ⟨by rw [HW.out]; rfl, HM.out.bel⟩
theorem firstM_cells (a : AddrM) (h : a.ok) (q m : Nat) (hq : q < 16) (k : Nat) (hk : k / 8 = q) (hm : k % 8 = m) (y : UInt8) (hy : cutByte (a.ip.getD q 0) m = y) :
    (AddrM.mk a.six (a.ip.set q y)).cells.take (1 + (q + 1)) ++ List.replicate (16 - (q + 1)) (.int .u8 0) ++ (AddrM.mk a.six (a.ip.set q y)).cells.drop (1 + (q + 1) + (16 - (q + 1))) = (firstM a k).cells := by
  have hl : a.ip.length = 16 := h
  rw [firstM, hk, hm, if_pos hq, hy]
  simp only [AddrM.cells]
  rw [List.drop_of_length_le (by rw [List.length_cons, List.length_map, List.length_set]; omega), List.append_nil, Nat.add_comm, List.take_succ_cons, List.map_append, List.map_take, List.map_replicate, show 16 - (q + 1) = 15 - q by omega]
  rfl
set_option maxRecDepth 100000 in
theorem u8_zero (w : World) : (zeroValue 5).run Try.prog w = .ok (.int .u8 0) w := by
  obtain ⟨i0, hi, hz0, hz1, hz2⟩ := info_parts Try.info5
  simp [zeroValue, typeInfo, hi, hz0]
set_option maxRecDepth 100000 in
theorem array_from (g q : Nat) (hq : q < 16) (off : Nat) (hoff : (if 16 - (q + 1) = 0 then 1 else 1 + (q + 1)) = off) (w : World) :
    (Instr.sliceAt 24 (.pointer (some ⟨g, 1, none⟩)) (some (.int .i64 ((q : Int) + 1))) none none).run Try.prog w = .ok (.slice (some ⟨g, off, none⟩) (16 - (q + 1)) (16 - (q + 1))) w := by
  have hs : (sizeOf 5).run Try.prog w = .ok 1 w := by
    obtain ⟨i0, hi, hz0, hz1, hz2⟩ := info_parts Try.info5
    simp [sizeOf, typeInfo, hi, hz1]
  have hl : Try.prog.arrayLen 24 = 16 := by kernel_rfl
  have he : Try.prog.elem 24 = 5 := by kernel_rfl
  rw [run_sliceAt_array_l (P := Try.prog) w 24 ⟨g, 1, none⟩ (by rw [hl, he]; exact Try.underlying24) .i64 ((q : Int) + 1) (by omega) (by rw [hl]; omega), hl, he, hs]
  have e : ((q : Int) + 1).toNat = q + 1 := by omega
  simp only [Result.andThen, slicedAt, e, Go.WideShapes.add_plain, Nat.mul_one]
  by_cases h : 16 = q + 1
  · rw [if_pos h, ← hoff, if_pos (by omega)]
  · rw [if_neg h, ← hoff, if_neg (by omega)]
theorem cut_off (q off : Nat) (cs : List Value) (hoff : (if 16 - (q + 1) = 0 then 1 else 1 + (q + 1)) = off) :
    cs.take off ++ List.replicate (16 - (q + 1)) (Value.int .u8 0) ++ cs.drop (off + (16 - (q + 1))) = cs.take (1 + (q + 1)) ++ List.replicate (16 - (q + 1)) (Value.int .u8 0) ++ cs.drop (1 + (q + 1) + (16 - (q + 1))) := by
  by_cases h : 16 - (q + 1) = 0
  · rw [h]; simp
  · rw [if_neg h] at hoff; subst hoff; rfl
set_option maxRecDepth 100000 in
set_option maxHeartbeats 4000000 in
theorem first_any (a : AddrM) (h : a.ok) (k : Nat) (hk : k ≤ 128) (w : World) :
    Calls Try.prog 51 #[.agg a.cells.toArray, .int .i64 (k : Int)] w fun e w' => e = .returned (.agg (firstM a k).cells.toArray) ∧ Below w.heap.size w w' := by
  obtain ⟨ca, hca⟩ : ∃ x, a.cells.toArray = x := ⟨_, rfl⟩
  rw [hca]
  have HM := Lib.hid (show Mem w [blkE (w.heap.size + 1) 26 (.bool false :: (List.replicate 16 (0 : UInt8)).map u8v), blkE w.heap.size 26 a.cells] ((w.alloc (.cells ca 26)).alloc (.cells #[.bool false, .int .u8 0, .int .u8 0, .int .u8 0, .int .u8 0, .int .u8 0, .int .u8 0, .int .u8 0, .int .u8 0, .int .u8 0, .int .u8 0, .int .u8 0, .int .u8 0, .int .u8 0, .int .u8 0, .int .u8 0, .int .u8 0] 26)) from ((Mem.nil w).alloc rfl 26 ca a.cells hca.symm).alloc (by simp) 26 #[.bool false, .int .u8 0, .int .u8 0, .int .u8 0, .int .u8 0, .int .u8 0, .int .u8 0, .int .u8 0, .int .u8 0, .int .u8 0, .int .u8 0, .int .u8 0, .int .u8 0, .int .u8 0, .int .u8 0, .int .u8 0, .int .u8 0] _ rfl)
  have HO := Lib.hid h
  have HF := Lib.hid (firstM_ok a h k)
  obtain ⟨q, hq⟩ : ∃ q, k / 8 = q := ⟨_, rfl⟩
  obtain ⟨m, hm⟩ : ∃ q, k % 8 = q := ⟨_, rfl⟩
  have hqI : (k : Int) / 8 = (q : Int) := by omega
  have hmI : (k : Int) % 8 = (m : Int) := by omega
  go_enter Try.func51, Try.ntmps51
  go_upto_region 1 with fail
  generalize ((w.alloc (.cells ca 26)).alloc (.cells #[.bool false, .int .u8 0, .int .u8 0, .int .u8 0, .int .u8 0, .int .u8 0, .int .u8 0, .int .u8 0, .int .u8 0, .int .u8 0, .int .u8 0, .int .u8 0, .int .u8 0, .int .u8 0, .int .u8 0, .int .u8 0, .int .u8 0] 26)) = w1 at HM ⊢
  by_cases hlt : q < 16
  · have hm8 : m < 8 := by omega
    have fx := ((HM.out.blk 1 rfl).cell (1 + q)).trans (AddrM.ip_cell _ HO.out q hlt)
    have zx := (HM.out.blk 1 rfl).frozen (1 + q)
    have hset := AddrM.set_cell a q
    obtain ⟨x, hx⟩ : ∃ x, a.ip.getD q 0 = x := ⟨_, rfl⟩
    rw [hx] at fx
    have hcb := cut_bits x m hm8
    obtain ⟨y, hy⟩ : ∃ y, cutByte x m = y := ⟨_, rfl⟩
    rw [hy] at hcb
    have HC := Lib.hid (firstM_cells a h q m hlt k hq hm y (by rw [hx, hy]))
    have hmin : min m 8 = m := by omega
    have bq : (q : Int) < 16 := by omega
    have HN := Lib.hid (show Mem w [blkE (w.heap.size + 1) 26 (.bool false :: (List.replicate 16 (0 : UInt8)).map u8v), blkE w.heap.size 26 (AddrM.mk a.six (a.ip.set q y)).cells] ((w1.setCell ⟨w.heap.size, 1 + q, none⟩ (.int .u8 (y.toNat : Int))).drew) from by have h := HM.out.drew.setCell 1 rfl (1 + q) (u8v y); rw [hset] at h; exact h)
    have hset2 : (AddrM.mk a.six (a.ip.set q y)).ok := by show (a.ip.set q y).length = 16; rw [List.length_set]; exact HO.out
    clear hset hx hy HM hca h
    have hlI : decide ((q : Int) < 16) = true := by simp; omega
    go_upto_region 3 with fail
    go_region
    clear fx zx hcb hmin hlI
    generalize (w1.setCell ⟨w.heap.size, 1 + q, none⟩ (.int .u8 (y.toNat : Int))).drew = w2 at HN ⊢
    obtain ⟨off, hoff⟩ : ∃ off, (if 16 - (q + 1) = 0 then 1 else 1 + (q + 1)) = off := ⟨_, rfl⟩
    obtain ⟨z, hz⟩ : ∃ z, 16 - (q + 1) = z := ⟨_, rfl⟩
    have hcut := cut_off q off (AddrM.mk a.six (a.ip.set q y)).cells hoff
    have hfit : off + (16 - (q + 1)) ≤ (AddrM.mk a.six (a.ip.set q y)).cells.length := by rw [AddrM.cells_length (hset2 : (AddrM.mk a.six (a.ip.set q y)).ok), ← hoff]; split <;> omega
    rw [HC.out, hz] at hcut
    have HCUT := Lib.hid hcut
    rw [hz] at hfit
    have hsl : ∀ w', (Instr.sliceAt 24 (.pointer (some ⟨w.heap.size, 1, none⟩)) (some (.int .i64 ((q : Int) + 1))) none none).run Try.prog w' = .ok (.slice (some ⟨w.heap.size, off, none⟩) z z) w' := fun w' => by rw [← hz]; exact array_from w.heap.size q hlt off hoff w'
    clear hoff hz hcut
    go_upto_region 5 with (refine wpList_clear_blk w2 rfl (.tmp 23) 22 5 rfl Try.underlying22 u8_zero w.heap.size off z z rfl 26 (AddrM.mk a.six (a.ip.set q y)).cells (HN.out.blk 1 rfl) hfit ?_; intro w3 hb hg)
    rw [HCUT.out] at hb
    replace HM := Lib.hid (show Mem w [blkE (w.heap.size + 1) 26 (.bool false :: (List.replicate 16 (0 : UInt8)).map u8v), blkE w.heap.size 26 (firstM a k).cells] w3 from HN.out.put 1 rfl _ hg hb)
    clear HN hb hg hsl
    obtain ⟨cf, hcf⟩ : ∃ x, (firstM a k).cells.toArray = x := ⟨_, rfl⟩
    have HCF := Lib.hid hcf
    clear hcf
    go_wp2_with (first | (refine wpList_load_obj rfl 26 (.tmp 2) rfl w.heap.size 0 rfl (firstM a k).cells (HM.out.blk 1 rfl).all _ Try.underlying26 rfl (addr_cellsOf _ HF.out) ?_; rw [HCF.out]) | (refine wpList_store_blk rfl 26 (.tmp 4) (.tmp 24) rfl (w.heap.size + 1) (firstM a k).cells rfl (by show Value.agg cf = _; rw [HCF.out]) 26 (.bool false :: (List.replicate 16 (0 : UInt8)).map u8v) (HM.out.blk 0 rfl) (addr_cellsOf _ HF.out) (by rw [AddrM.cells_length HF.out]; rfl) (AddrM.one _) ?_; intro w9 hb9 hg9))
    exact bodyPost_ret (results_obj rfl _ _ (w.heap.size + 1) 26 (firstM a k).cells _ rfl hb9 Try.underlying26 rfl (addr_cellsOf _ HF.out)) rfl ⟨rfl, (HM.out.put 0 rfl _ hg9 hb9).bel⟩
  · have hlI : decide ((q : Int) < 16) = false := by simp; omega
    have hfa : firstM a k = a := by rw [firstM, if_neg (by omega)]
    rw [← hfa] at HM
    obtain ⟨cf, hcf⟩ : ∃ x, (firstM a k).cells.toArray = x := ⟨_, rfl⟩
    have HCF := Lib.hid hcf
    clear hcf
    go_upto_region 5 with fail
    go_wp2_with (first | (refine wpList_load_obj rfl 26 (.tmp 2) rfl w.heap.size 0 rfl (firstM a k).cells (HM.out.blk 1 rfl).all _ Try.underlying26 rfl (addr_cellsOf _ HF.out) ?_; rw [HCF.out]) | (refine wpList_store_blk rfl 26 (.tmp 4) (.tmp 24) rfl (w.heap.size + 1) (firstM a k).cells rfl (by show Value.agg cf = _; rw [HCF.out]) 26 (.bool false :: (List.replicate 16 (0 : UInt8)).map u8v) (HM.out.blk 0 rfl) (addr_cellsOf _ HF.out) (by rw [AddrM.cells_length HF.out]; rfl) (AddrM.one _) ?_; intro w9 hb9 hg9))
    exact bodyPost_ret (results_obj rfl _ _ (w.heap.size + 1) 26 (firstM a k).cells _ rfl hb9 Try.underlying26 rfl (addr_cellsOf _ HF.out)) rfl ⟨rfl, (HM.out.put 0 rfl _ hg9 hb9).bel⟩
end Go.Proofs.Ytnblofbbbkjhpaa
namespace Go.Proofs.Ytnblofbbbkjhpaa
open Go.RowKit

theorem addr_eq (a b : AddrM) (ha : a.ok) (hb : b.ok) (w : World) : (Op.equalIn 10000 26 (.agg a.cells.toArray) (.agg b.cells.toArray)).run Try.prog w = .ok (decide (a = b)) w := by
  obtain ⟨la, hla⟩ := addr_lits 0 a ha
  obtain ⟨lb, hlb⟩ := addr_lits 0 b hb
  have hf : ∀ x : AddrM, x.ok → (Value.agg x.cells.toArray).formed Try.prog 26 = true := by
    intro x hx
    have hs : Try.prog.cellsOf 26 = x.cells.length := by rw [AddrM.cells_length hx]; kernel_rfl
    simp [Value.formed, Try.underlying26, hs]
  obtain ⟨r, hr, hiff⟩ := run_equalIn_deep (P := Try.prog) (10000 - 5) 5 26 (by kernel_rfl) w 3 3 (.agg a.cells.toArray) (.agg b.cells.toArray) la lb (hf a ha) (hf b hb) hla hlb
  rw [show 10000 - 5 + 5 = 10000 from rfl] at hr
  rw [hr]
  have h : r = true ↔ a = b := by
    rw [hiff]
    constructor
    · intro e
      have h1 := cells_of_lits 5 26 (by kernel_rfl) 3 a.cells la hla
      have h2 := cells_of_lits 5 26 (by kernel_rfl) 3 b.cells lb hlb
      exact cells_inj a b (by rw [h1, h2, e])
    · rintro rfl
      rw [hla] at hlb
      exact Option.some.inj hlb
  rw [show r = decide (a = b) by rw [Bool.eq_iff_iff, decide_eq_true_iff]; exact h]
theorem widthM_128 (a : AddrM) : widthM a ≤ 128 := by unfold widthM; split <;> omega
set_option maxRecDepth 100000 in
set_option maxHeartbeats 4000000 in
theorem validAddress_any (a : AddrM) (h : a.ok) (w : World) :
    Calls Try.prog 56 #[.agg a.cells.toArray] w fun e w' => e = .returned (.bool (soundM a)) ∧ Below w.heap.size w w' := by
  have hsz := fun W : World => size_any a W
  have hfs := fun W : World => first_any a h (widthM a) (widthM_128 a) W
  have heq := fun W : World => addr_eq (firstM a (widthM a)) a (firstM_ok a h _) h W
  rw [← sound_first a h] at heq
  obtain ⟨r, hr⟩ : ∃ r, soundM a = r := ⟨_, rfl⟩
  obtain ⟨ca, hca⟩ : ∃ c, a.cells.toArray = c := ⟨_, rfl⟩
  obtain ⟨cf, hcf⟩ : ∃ c, (firstM a (widthM a)).cells.toArray = c := ⟨_, rfl⟩
  simp only [hca, hcf, hr] at hsz hfs heq ⊢
  have HM := Lib.hid (show Mem w [blkE w.heap.size 26 a.cells] (w.alloc (.cells ca 26)) from (Mem.nil w).alloc rfl 26 ca a.cells hca.symm)
  have HO := Lib.hid h
  have HCA := Lib.hid hca
  have HSZ := Lib.hid hsz
  have HFS := Lib.hid hfs
  have HEQ := Lib.hid heq
  have HR := Lib.hid (Eq.refl r)
  clear h hca hsz hfs heq hcf hr
  go_enter Try.func56, Try.ntmps56
  go_upto_region 1 with fail
  generalize w.alloc (.cells ca 26) = w1 at HM ⊢
  refine wp_region_held_drew (S := fun W' => Mem w [blkE w.heap.size 26 a.cells] W') (by kernel_rfl) ((HM.out).drew) (fun hHeld => ?_)
  replace HM := Lib.hid HM.out.drew
  generalize w1.drew = wd1 at HM hHeld ⊢
  refine take_first (v := .agg ca) 0 rfl (by kernel_rfl) (by kernel_rfl) (by kernel_rfl) (fun _ _ _ h => h) (by rw [← HCA.out]; exact yields_load_obj (by rfl) 26 (.tmp 1) rfl w.heap.size 0 rfl a.cells (fun w' hb => (Mem.blk hb 0 rfl).all) _ Try.underlying26 rfl (addr_cellsOf _ HO.out)) (by assumption) ?_
  (try simp only [Act.put, List.setIfInBounds_toArray, List.set_cons_zero, List.set_cons_succ])
  refine take_first (v := .agg ca) 1 rfl (by kernel_rfl) (by kernel_rfl) (by kernel_rfl) (fun _ _ _ h => h) (by rw [← HCA.out]; exact yields_load_obj (by rfl) 26 (.tmp 1) rfl w.heap.size 0 rfl a.cells (fun w' hb => (Mem.blk hb 0 rfl).all) _ Try.underlying26 rfl (addr_cellsOf _ HO.out)) (by assumption) ?_
  (try simp only [Act.put, List.setIfInBounds_toArray, List.set_cons_zero, List.set_cons_succ])
  refine take_first (v := .agg ca) 4 rfl (by kernel_rfl) (by kernel_rfl) (by kernel_rfl) (fun _ _ _ h => h) (by rw [← HCA.out]; exact yields_load_obj (by rfl) 26 (.tmp 1) rfl w.heap.size 0 rfl a.cells (fun w' hb => (Mem.blk hb 0 rfl).all) _ Try.underlying26 rfl (addr_cellsOf _ HO.out)) (by assumption) ?_
  (try simp only [Act.put, List.setIfInBounds_toArray, List.set_cons_zero, List.set_cons_succ])
  refine step_one 2 rfl (by kernel_rfl) (fun K hK => ?_)
  clear hHeld
  go_simp
  refine (HSZ.out _).mono ?_
  rintro e wy2 ⟨rfl, hb⟩
  replace HM := Lib.hid (show Mem w [blkE w.heap.size 26 a.cells] wy2 from HM.out.below hb)
  clear hb
  go_wp2_with fail
  refine hK.out _ _ (HM.out) (fun hHeld => ?_)
  clear hK K
  (try simp only [Act.put, List.setIfInBounds_toArray, List.set_cons_zero, List.set_cons_succ])
  refine step_one 3 rfl (by kernel_rfl) (fun K hK => ?_)
  clear hHeld
  go_simp
  refine (HFS.out _).mono ?_
  rintro e wy3 ⟨rfl, hb⟩
  replace HM := Lib.hid (show Mem w [blkE w.heap.size 26 a.cells] wy3 from HM.out.below hb)
  clear hb
  go_wp2_with fail
  refine hK.out _ _ (HM.out) (fun hHeld => ?_)
  clear hK K
  (try simp only [Act.put, List.setIfInBounds_toArray, List.set_cons_zero, List.set_cons_succ])
  refine take_first (v := ?_) 5 rfl (by kernel_rfl) (by kernel_rfl) (by kernel_rfl) (fun _ _ _ h => h) (Or.inl ⟨by rfl, ?_⟩) (by assumption) ?_
  rotate_left
  · (intro w hSw; (try dsimp only at hSw); refine (run_eql_agg _ _ 26 26 6 7 ?_ cf ca r w ?_ ?_ addr_noguard (HEQ.out w)).trans ?_ <;> first | with_reducible rfl | rfl)
  (try simp only [Act.put, List.setIfInBounds_toArray, List.set_cons_zero, List.set_cons_succ])
  refine take_first (v := ?_) 6 rfl (by kernel_rfl) (by kernel_rfl) (by kernel_rfl) (fun _ _ _ h => h) (Or.inl ⟨by rfl, ?_⟩) (by assumption) ?_
  rotate_left
  · (intro w hSw; (try dsimp only at hSw); go_simp; try with_reducible rfl)
  (try simp only [Act.put, List.setIfInBounds_toArray, List.set_cons_zero, List.set_cons_succ])
  refine wpAnyH_done (by kernel_rfl) ?_ _
  clear hHeld
  go_wp2
  go_ret
  exact ⟨by first | rfl | (rw [HR.out]; rfl), HM.out.bel⟩
set_option maxRecDepth 100000 in
set_option maxHeartbeats 4000000 in
theorem valid_any (a : AddrM) (bits : Int) (h : a.ok) (w : World) :
    Calls Try.prog 33 #[.agg (prefC a bits).toArray] w fun e w' => e = .returned (.bool (validM a bits)) ∧ Below w.heap.size w w' := by
  have hvf := valid_first a h bits
  have hsz := fun W : World => size_any a W
  have hwl := widthM_128 a
  obtain ⟨cp, hcp⟩ : ∃ c, (prefC a bits).toArray = c := ⟨_, rfl⟩
  obtain ⟨ca, hca⟩ : ∃ c, a.cells.toArray = c := ⟨_, rfl⟩
  obtain ⟨vv, hvv⟩ : ∃ r, validM a bits = r := ⟨_, rfl⟩
  obtain ⟨wd, hwd⟩ : ∃ r, widthM a = r := ⟨_, rfl⟩
  simp only [hcp, hca, hvv, hwd] at hvf hsz hwl ⊢
  have HM := Lib.hid (show Mem w [blkE w.heap.size 28 (prefC a bits)] (w.alloc (.cells cp 28)) from (Mem.nil w).alloc rfl 28 cp (prefC a bits) hcp.symm)
  have HO := Lib.hid h
  have HCA := Lib.hid hca
  have HSZ := Lib.hid hsz
  clear hcp hca hsz hvv hwd
  go_enter Try.func33, Try.ntmps33
  go_upto_region 1 with fail
  generalize w.alloc (.cells cp 28) = w1 at HM ⊢
  by_cases h0 : 0 ≤ bits
  · by_cases h1 : bits ≤ (wd : Int)
    · have HD0 := Lib.hid (show decide (0 ≤ bits) = true by simpa using h0)
      have HD1 := Lib.hid (show decide (bits ≤ (wd : Int)) = true by simpa using h1)
      rw [HD0.out, HD1.out, Bool.true_and, Bool.true_and] at hvf
      obtain ⟨k, hk⟩ : ∃ k : Nat, bits = (k : Int) := ⟨bits.toNat, by omega⟩
      have hfs := fun W : World => first_any a h k (by omega) W
      have heq := fun W : World => addr_eq (firstM a k) a (firstM_ok a h _) h W
      have hkn : bits.toNat = k := by omega
      rw [hkn] at hvf
      obtain ⟨cf, hcf⟩ : ∃ c, (firstM a k).cells.toArray = c := ⟨_, rfl⟩
      rw [← hvf] at heq
      rw [← hk] at hfs
      simp only [HCA.out, hcf] at hfs heq
      have HFS := Lib.hid hfs
      have HEQ := Lib.hid heq
      have HR := Lib.hid (Eq.refl vv)
      clear hfs heq hvf hkn hk h h0 h1 hcf hwl
      refine wp_region_held_drew (S := fun W' => Mem w [blkE w.heap.size 28 (prefC a bits)] W') (by kernel_rfl) ((HM.out).drew) (fun hHeld => ?_)
      replace HM := Lib.hid HM.out.drew
      generalize w1.drew = wd1 at HM hHeld ⊢
      refine take_first (v := ?_) 0 rfl (by kernel_rfl) (by kernel_rfl) (by kernel_rfl) (fun _ _ _ h => h) (Or.inl ⟨by rfl, ?_⟩) (by assumption) ?_
      rotate_left
      · (intro w hSw; (try dsimp only at hSw); go_simp; try with_reducible rfl)
      (try simp only [Act.put, List.setIfInBounds_toArray, List.set_cons_zero, List.set_cons_succ])
      refine take_first (v := ?_) 1 rfl (by kernel_rfl) (by kernel_rfl) (by kernel_rfl) (fun _ _ _ h => h) (Or.inl ⟨by rfl, ?_⟩) (by assumption) ?_
      rotate_left
      · (intro w hSw; (try dsimp only at hSw); have fb := (Mem.blk hSw 0 rfl).cell 17; rw [prefC_bits a HO.out bits] at fb; go_simp; try with_reducible rfl)
      (try simp only [Act.put, List.setIfInBounds_toArray, List.set_cons_zero, List.set_cons_succ])
      refine take_first (v := ?_) 2 rfl (by kernel_rfl) (by kernel_rfl) (by kernel_rfl) (fun _ _ _ h => h) (Or.inl ⟨by rfl, ?_⟩) (by assumption) ?_
      rotate_left
      · (intro w hSw; (try dsimp only at hSw); have d0 := HD0.out; go_simp; try with_reducible rfl)
      (try simp only [Act.put, List.setIfInBounds_toArray, List.set_cons_zero, List.set_cons_succ])
      refine take_first (v := ?_) 3 rfl (by kernel_rfl) (by kernel_rfl) (by kernel_rfl) (fun _ _ _ h => h) (Or.inl ⟨by rfl, ?_⟩) (by assumption) ?_
      rotate_left
      · (intro w hSw; (try dsimp only at hSw); go_simp; try with_reducible rfl)
      (try simp only [Act.put, List.setIfInBounds_toArray, List.set_cons_zero, List.set_cons_succ])
      refine take_first (v := ?_) 4 rfl (by kernel_rfl) (by kernel_rfl) (by kernel_rfl) (fun _ _ _ h => h) (Or.inl ⟨by rfl, ?_⟩) (by assumption) ?_
      rotate_left
      · (intro w hSw; (try dsimp only at hSw); go_simp; try with_reducible rfl)
      (try simp only [Act.put, List.setIfInBounds_toArray, List.set_cons_zero, List.set_cons_succ])
      refine take_first (v := ?_) 5 rfl (by kernel_rfl) (by kernel_rfl) (by kernel_rfl) (fun _ _ _ h => h) (Or.inl ⟨by rfl, ?_⟩) (by assumption) ?_
      rotate_left
      · (intro w hSw; (try dsimp only at hSw); have fb := (Mem.blk hSw 0 rfl).cell 17; rw [prefC_bits a HO.out bits] at fb; go_simp; try with_reducible rfl)
      (try simp only [Act.put, List.setIfInBounds_toArray, List.set_cons_zero, List.set_cons_succ])
      refine take_first (v := ?_) 6 rfl (by kernel_rfl) (by kernel_rfl) (by kernel_rfl) (fun _ _ _ h => h) (Or.inl ⟨by rfl, ?_⟩) (by assumption) ?_
      rotate_left
      · (intro w hSw; (try dsimp only at hSw); go_simp; try with_reducible rfl)
      (try simp only [Act.put, List.setIfInBounds_toArray, List.set_cons_zero, List.set_cons_succ])
      refine take_first (v := .agg ca) 7 rfl (by kernel_rfl) (by kernel_rfl) (by kernel_rfl) (fun _ _ _ h => h) (by rw [← HCA.out]; exact yields_load_obj (by rfl) 26 (.tmp 9) rfl w.heap.size 0 rfl a.cells (fun w' hb => by have h := (Mem.blk hb 0 rfl).sub 0 17; rw [prefC_addr a HO.out bits] at h; exact h) _ Try.underlying26 rfl (addr_cellsOf _ HO.out)) (by assumption) ?_
      (try simp only [Act.put, List.setIfInBounds_toArray, List.set_cons_zero, List.set_cons_succ])
      refine step_one 8 rfl (by kernel_rfl) (fun K hK => ?_)
      clear hHeld
      go_simp
      refine (HSZ.out _).mono ?_
      rintro e wy2 ⟨rfl, hb⟩
      replace HM := Lib.hid (show Mem w [blkE w.heap.size 28 (prefC a bits)] wy2 from HM.out.below hb)
      clear hb
      go_wp2_with fail
      refine hK.out _ _ (HM.out) (fun hHeld => ?_)
      clear hK K
      (try simp only [Act.put, List.setIfInBounds_toArray, List.set_cons_zero, List.set_cons_succ])
      refine take_first (v := ?_) 9 rfl (by kernel_rfl) (by kernel_rfl) (by kernel_rfl) (fun _ _ _ h => h) (Or.inl ⟨by rfl, ?_⟩) (by assumption) ?_
      rotate_left
      · (intro w hSw; (try dsimp only at hSw); have d1 := HD1.out; go_simp; try with_reducible rfl)
      (try simp only [Act.put, List.setIfInBounds_toArray, List.set_cons_zero, List.set_cons_succ])
      refine take_first (v := ?_) 10 rfl (by kernel_rfl) (by kernel_rfl) (by kernel_rfl) (fun _ _ _ h => h) (Or.inl ⟨by rfl, ?_⟩) (by assumption) ?_
      rotate_left
      · (intro w hSw; (try dsimp only at hSw); go_simp; try with_reducible rfl)
      (try simp only [Act.put, List.setIfInBounds_toArray, List.set_cons_zero, List.set_cons_succ])
      refine take_first (v := ?_) 11 rfl (by kernel_rfl) (by kernel_rfl) (by kernel_rfl) (fun _ _ _ h => h) (Or.inl ⟨by rfl, ?_⟩) (by assumption) ?_
      rotate_left
      · (intro w hSw; (try dsimp only at hSw); go_simp; try with_reducible rfl)
      (try simp only [Act.put, List.setIfInBounds_toArray, List.set_cons_zero, List.set_cons_succ])
      refine take_first (v := ?_) 12 rfl (by kernel_rfl) (by kernel_rfl) (by kernel_rfl) (fun _ _ _ h => h) (Or.inl ⟨by rfl, ?_⟩) (by assumption) ?_
      rotate_left
      · (intro w hSw; (try dsimp only at hSw); go_simp; try with_reducible rfl)
      (try simp only [Act.put, List.setIfInBounds_toArray, List.set_cons_zero, List.set_cons_succ])
      refine take_first (v := .agg ca) 13 rfl (by kernel_rfl) (by kernel_rfl) (by kernel_rfl) (fun _ _ _ h => h) (by rw [← HCA.out]; exact yields_load_obj (by rfl) 26 (.tmp 15) rfl w.heap.size 0 rfl a.cells (fun w' hb => by have h := (Mem.blk hb 0 rfl).sub 0 17; rw [prefC_addr a HO.out bits] at h; exact h) _ Try.underlying26 rfl (addr_cellsOf _ HO.out)) (by assumption) ?_
      (try simp only [Act.put, List.setIfInBounds_toArray, List.set_cons_zero, List.set_cons_succ])
      refine take_first (v := ?_) 14 rfl (by kernel_rfl) (by kernel_rfl) (by kernel_rfl) (fun _ _ _ h => h) (Or.inl ⟨by rfl, ?_⟩) (by assumption) ?_
      rotate_left
      · (intro w hSw; (try dsimp only at hSw); go_simp; try with_reducible rfl)
      (try simp only [Act.put, List.setIfInBounds_toArray, List.set_cons_zero, List.set_cons_succ])
      refine take_first (v := ?_) 15 rfl (by kernel_rfl) (by kernel_rfl) (by kernel_rfl) (fun _ _ _ h => h) (Or.inl ⟨by rfl, ?_⟩) (by assumption) ?_
      rotate_left
      · (intro w hSw; (try dsimp only at hSw); have fb := (Mem.blk hSw 0 rfl).cell 17; rw [prefC_bits a HO.out bits] at fb; go_simp; try with_reducible rfl)
      (try simp only [Act.put, List.setIfInBounds_toArray, List.set_cons_zero, List.set_cons_succ])
      refine take_first (v := ?_) 17 rfl (by kernel_rfl) (by kernel_rfl) (by kernel_rfl) (fun _ _ _ h => h) (Or.inl ⟨by rfl, ?_⟩) (by assumption) ?_
      rotate_left
      · (intro w hSw; (try dsimp only at hSw); go_simp; try with_reducible rfl)
      (try simp only [Act.put, List.setIfInBounds_toArray, List.set_cons_zero, List.set_cons_succ])
      refine take_first (v := .agg ca) 18 rfl (by kernel_rfl) (by kernel_rfl) (by kernel_rfl) (fun _ _ _ h => h) (by rw [← HCA.out]; exact yields_load_obj (by rfl) 26 (.tmp 20) rfl w.heap.size 0 rfl a.cells (fun w' hb => by have h := (Mem.blk hb 0 rfl).sub 0 17; rw [prefC_addr a HO.out bits] at h; exact h) _ Try.underlying26 rfl (addr_cellsOf _ HO.out)) (by assumption) ?_
      (try simp only [Act.put, List.setIfInBounds_toArray, List.set_cons_zero, List.set_cons_succ])
      refine step_one 16 rfl (by kernel_rfl) (fun K hK => ?_)
      clear hHeld
      go_simp
      refine (HFS.out _).mono ?_
      rintro e wy3 ⟨rfl, hb⟩
      replace HM := Lib.hid (show Mem w [blkE w.heap.size 28 (prefC a bits)] wy3 from HM.out.below hb)
      clear hb
      go_wp2_with fail
      refine hK.out _ _ (HM.out) (fun hHeld => ?_)
      clear hK K
      (try simp only [Act.put, List.setIfInBounds_toArray, List.set_cons_zero, List.set_cons_succ])
      refine take_first (v := ?_) 19 rfl (by kernel_rfl) (by kernel_rfl) (by kernel_rfl) (fun _ _ _ h => h) (Or.inl ⟨by rfl, ?_⟩) (by assumption) ?_
      rotate_left
      · (intro w hSw; (try dsimp only at hSw); refine (run_eql_agg _ _ 26 26 19 21 ?_ cf ca vv w ?_ ?_ addr_noguard (HEQ.out w)).trans ?_ <;> first | with_reducible rfl | rfl)
      (try simp only [Act.put, List.setIfInBounds_toArray, List.set_cons_zero, List.set_cons_succ])
      refine take_first (v := ?_) 20 rfl (by kernel_rfl) (by kernel_rfl) (by kernel_rfl) (fun _ _ _ h => h) (Or.inl ⟨by rfl, ?_⟩) (by assumption) ?_
      rotate_left
      · (intro w hSw; (try dsimp only at hSw); go_simp; try with_reducible rfl)
      (try simp only [Act.put, List.setIfInBounds_toArray, List.set_cons_zero, List.set_cons_succ])
      refine take_first (v := ?_) 21 rfl (by kernel_rfl) (by kernel_rfl) (by kernel_rfl) (fun _ _ _ h => h) (Or.inl ⟨by rfl, ?_⟩) (by assumption) ?_
      rotate_left
      · (intro w hSw; (try dsimp only at hSw); go_simp; try with_reducible rfl)
      (try simp only [Act.put, List.setIfInBounds_toArray, List.set_cons_zero, List.set_cons_succ])
      refine wpAnyH_done (by kernel_rfl) ?_ _
      clear hHeld
      go_wp2
      go_ret
      exact ⟨by first | rfl | (rw [HR.out]; rfl), HM.out.bel⟩
    · have HD0 := Lib.hid (show decide (0 ≤ bits) = true by simpa using h0)
      have HD1 := Lib.hid (show decide (bits ≤ (wd : Int)) = false by simpa using h1)
      have HR := Lib.hid (show vv = false by rw [hvf, HD1.out]; simp)
      clear hvf h h0 h1 hwl
      refine wp_region_held_drew (S := fun W' => Mem w [blkE w.heap.size 28 (prefC a bits)] W') (by kernel_rfl) ((HM.out).drew) (fun hHeld => ?_)
      replace HM := Lib.hid HM.out.drew
      generalize w1.drew = wd1 at HM hHeld ⊢
      refine take_first (v := ?_) 0 rfl (by kernel_rfl) (by kernel_rfl) (by kernel_rfl) (fun _ _ _ h => h) (Or.inl ⟨by rfl, ?_⟩) (by assumption) ?_
      rotate_left
      · (intro w hSw; (try dsimp only at hSw); go_simp; try with_reducible rfl)
      (try simp only [Act.put, List.setIfInBounds_toArray, List.set_cons_zero, List.set_cons_succ])
      refine take_first (v := ?_) 1 rfl (by kernel_rfl) (by kernel_rfl) (by kernel_rfl) (fun _ _ _ h => h) (Or.inl ⟨by rfl, ?_⟩) (by assumption) ?_
      rotate_left
      · (intro w hSw; (try dsimp only at hSw); have fb := (Mem.blk hSw 0 rfl).cell 17; rw [prefC_bits a HO.out bits] at fb; go_simp; try with_reducible rfl)
      (try simp only [Act.put, List.setIfInBounds_toArray, List.set_cons_zero, List.set_cons_succ])
      refine take_first (v := ?_) 2 rfl (by kernel_rfl) (by kernel_rfl) (by kernel_rfl) (fun _ _ _ h => h) (Or.inl ⟨by rfl, ?_⟩) (by assumption) ?_
      rotate_left
      · (intro w hSw; (try dsimp only at hSw); have d0 := HD0.out; go_simp; try with_reducible rfl)
      (try simp only [Act.put, List.setIfInBounds_toArray, List.set_cons_zero, List.set_cons_succ])
      refine take_first (v := ?_) 3 rfl (by kernel_rfl) (by kernel_rfl) (by kernel_rfl) (fun _ _ _ h => h) (Or.inl ⟨by rfl, ?_⟩) (by assumption) ?_
      rotate_left
      · (intro w hSw; (try dsimp only at hSw); go_simp; try with_reducible rfl)
      (try simp only [Act.put, List.setIfInBounds_toArray, List.set_cons_zero, List.set_cons_succ])
      refine take_first (v := ?_) 4 rfl (by kernel_rfl) (by kernel_rfl) (by kernel_rfl) (fun _ _ _ h => h) (Or.inl ⟨by rfl, ?_⟩) (by assumption) ?_
      rotate_left
      · (intro w hSw; (try dsimp only at hSw); go_simp; try with_reducible rfl)
      (try simp only [Act.put, List.setIfInBounds_toArray, List.set_cons_zero, List.set_cons_succ])
      refine take_first (v := ?_) 5 rfl (by kernel_rfl) (by kernel_rfl) (by kernel_rfl) (fun _ _ _ h => h) (Or.inl ⟨by rfl, ?_⟩) (by assumption) ?_
      rotate_left
      · (intro w hSw; (try dsimp only at hSw); have fb := (Mem.blk hSw 0 rfl).cell 17; rw [prefC_bits a HO.out bits] at fb; go_simp; try with_reducible rfl)
      (try simp only [Act.put, List.setIfInBounds_toArray, List.set_cons_zero, List.set_cons_succ])
      refine take_first (v := ?_) 6 rfl (by kernel_rfl) (by kernel_rfl) (by kernel_rfl) (fun _ _ _ h => h) (Or.inl ⟨by rfl, ?_⟩) (by assumption) ?_
      rotate_left
      · (intro w hSw; (try dsimp only at hSw); go_simp; try with_reducible rfl)
      (try simp only [Act.put, List.setIfInBounds_toArray, List.set_cons_zero, List.set_cons_succ])
      refine take_first (v := .agg ca) 7 rfl (by kernel_rfl) (by kernel_rfl) (by kernel_rfl) (fun _ _ _ h => h) (by rw [← HCA.out]; exact yields_load_obj (by rfl) 26 (.tmp 9) rfl w.heap.size 0 rfl a.cells (fun w' hb => by have h := (Mem.blk hb 0 rfl).sub 0 17; rw [prefC_addr a HO.out bits] at h; exact h) _ Try.underlying26 rfl (addr_cellsOf _ HO.out)) (by assumption) ?_
      (try simp only [Act.put, List.setIfInBounds_toArray, List.set_cons_zero, List.set_cons_succ])
      refine step_one 8 rfl (by kernel_rfl) (fun K hK => ?_)
      clear hHeld
      go_simp
      refine (HSZ.out _).mono ?_
      rintro e wy2 ⟨rfl, hb⟩
      replace HM := Lib.hid (show Mem w [blkE w.heap.size 28 (prefC a bits)] wy2 from HM.out.below hb)
      clear hb
      go_wp2_with fail
      refine hK.out _ _ (HM.out) (fun hHeld => ?_)
      clear hK K
      (try simp only [Act.put, List.setIfInBounds_toArray, List.set_cons_zero, List.set_cons_succ])
      refine take_first (v := ?_) 9 rfl (by kernel_rfl) (by kernel_rfl) (by kernel_rfl) (fun _ _ _ h => h) (Or.inl ⟨by rfl, ?_⟩) (by assumption) ?_
      rotate_left
      · (intro w hSw; (try dsimp only at hSw); have d1 := HD1.out; go_simp; try with_reducible rfl)
      (try simp only [Act.put, List.setIfInBounds_toArray, List.set_cons_zero, List.set_cons_succ])
      refine take_first (v := ?_) 10 rfl (by kernel_rfl) (by kernel_rfl) (by kernel_rfl) (fun _ _ _ h => h) (Or.inl ⟨by rfl, ?_⟩) (by assumption) ?_
      rotate_left
      · (intro w hSw; (try dsimp only at hSw); go_simp; try with_reducible rfl)
      (try simp only [Act.put, List.setIfInBounds_toArray, List.set_cons_zero, List.set_cons_succ])
      refine take_first (v := ?_) 11 rfl (by kernel_rfl) (by kernel_rfl) (by kernel_rfl) (fun _ _ _ h => h) (Or.inl ⟨by rfl, ?_⟩) (by assumption) ?_
      rotate_left
      · (intro w hSw; (try dsimp only at hSw); go_simp; try with_reducible rfl)
      (try simp only [Act.put, List.setIfInBounds_toArray, List.set_cons_zero, List.set_cons_succ])
      refine take_first (v := undef) 12 rfl (by kernel_rfl) (by kernel_rfl) (by kernel_rfl) (fun _ _ _ h => h) (Or.inr ⟨by rfl, rfl⟩) (by assumption) ?_
      (try simp only [Act.put, List.setIfInBounds_toArray, List.set_cons_zero, List.set_cons_succ])
      refine take_first (v := undef) 13 rfl (by kernel_rfl) (by kernel_rfl) (by kernel_rfl) (fun _ _ _ h => h) (Or.inr ⟨by rfl, rfl⟩) (by assumption) ?_
      (try simp only [Act.put, List.setIfInBounds_toArray, List.set_cons_zero, List.set_cons_succ])
      refine take_first (v := undef) 14 rfl (by kernel_rfl) (by kernel_rfl) (by kernel_rfl) (fun _ _ _ h => h) (Or.inr ⟨by rfl, rfl⟩) (by assumption) ?_
      (try simp only [Act.put, List.setIfInBounds_toArray, List.set_cons_zero, List.set_cons_succ])
      refine take_first (v := undef) 15 rfl (by kernel_rfl) (by kernel_rfl) (by kernel_rfl) (fun _ _ _ h => h) (Or.inr ⟨by rfl, rfl⟩) (by assumption) ?_
      (try simp only [Act.put, List.setIfInBounds_toArray, List.set_cons_zero, List.set_cons_succ])
      refine take_first (v := undef) 16 rfl (by kernel_rfl) (by kernel_rfl) (by kernel_rfl) (fun _ _ _ h => h) (Or.inr ⟨by rfl, rfl⟩) (by assumption) ?_
      (try simp only [Act.put, List.setIfInBounds_toArray, List.set_cons_zero, List.set_cons_succ])
      refine take_first (v := undef) 17 rfl (by kernel_rfl) (by kernel_rfl) (by kernel_rfl) (fun _ _ _ h => h) (Or.inr ⟨by rfl, rfl⟩) (by assumption) ?_
      (try simp only [Act.put, List.setIfInBounds_toArray, List.set_cons_zero, List.set_cons_succ])
      refine take_first (v := undef) 18 rfl (by kernel_rfl) (by kernel_rfl) (by kernel_rfl) (fun _ _ _ h => h) (Or.inr ⟨by rfl, rfl⟩) (by assumption) ?_
      (try simp only [Act.put, List.setIfInBounds_toArray, List.set_cons_zero, List.set_cons_succ])
      refine take_first (v := undef) 19 rfl (by kernel_rfl) (by kernel_rfl) (by kernel_rfl) (fun _ _ _ h => h) (Or.inr ⟨by rfl, rfl⟩) (by assumption) ?_
      (try simp only [Act.put, List.setIfInBounds_toArray, List.set_cons_zero, List.set_cons_succ])
      refine take_first (v := ?_) 20 rfl (by kernel_rfl) (by kernel_rfl) (by kernel_rfl) (fun _ _ _ h => h) (Or.inl ⟨by rfl, ?_⟩) (by assumption) ?_
      rotate_left
      · (intro w hSw; (try dsimp only at hSw); go_simp; try with_reducible rfl)
      (try simp only [Act.put, List.setIfInBounds_toArray, List.set_cons_zero, List.set_cons_succ])
      refine take_first (v := ?_) 21 rfl (by kernel_rfl) (by kernel_rfl) (by kernel_rfl) (fun _ _ _ h => h) (Or.inl ⟨by rfl, ?_⟩) (by assumption) ?_
      rotate_left
      · (intro w hSw; (try dsimp only at hSw); go_simp; try with_reducible rfl)
      (try simp only [Act.put, List.setIfInBounds_toArray, List.set_cons_zero, List.set_cons_succ])
      refine wpAnyH_done (by kernel_rfl) ?_ _
      clear hHeld
      go_wp2
      go_ret
      exact ⟨by first | rfl | (rw [HR.out]; rfl), HM.out.bel⟩
  · have HD0 := Lib.hid (show decide (0 ≤ bits) = false by simpa using h0)
    have HR := Lib.hid (show vv = false by rw [hvf, HD0.out]; simp)
    clear hvf h h0 hwl
    refine wp_region_held_drew (S := fun W' => Mem w [blkE w.heap.size 28 (prefC a bits)] W') (by kernel_rfl) ((HM.out).drew) (fun hHeld => ?_)
    replace HM := Lib.hid HM.out.drew
    generalize w1.drew = wd1 at HM hHeld ⊢
    refine take_first (v := ?_) 0 rfl (by kernel_rfl) (by kernel_rfl) (by kernel_rfl) (fun _ _ _ h => h) (Or.inl ⟨by rfl, ?_⟩) (by assumption) ?_
    rotate_left
    · (intro w hSw; (try dsimp only at hSw); go_simp; try with_reducible rfl)
    (try simp only [Act.put, List.setIfInBounds_toArray, List.set_cons_zero, List.set_cons_succ])
    refine take_first (v := ?_) 1 rfl (by kernel_rfl) (by kernel_rfl) (by kernel_rfl) (fun _ _ _ h => h) (Or.inl ⟨by rfl, ?_⟩) (by assumption) ?_
    rotate_left
    · (intro w hSw; (try dsimp only at hSw); have fb := (Mem.blk hSw 0 rfl).cell 17; rw [prefC_bits a HO.out bits] at fb; go_simp; try with_reducible rfl)
    (try simp only [Act.put, List.setIfInBounds_toArray, List.set_cons_zero, List.set_cons_succ])
    refine take_first (v := ?_) 2 rfl (by kernel_rfl) (by kernel_rfl) (by kernel_rfl) (fun _ _ _ h => h) (Or.inl ⟨by rfl, ?_⟩) (by assumption) ?_
    rotate_left
    · (intro w hSw; (try dsimp only at hSw); have d0 := HD0.out; go_simp; try with_reducible rfl)
    (try simp only [Act.put, List.setIfInBounds_toArray, List.set_cons_zero, List.set_cons_succ])
    refine take_first (v := ?_) 3 rfl (by kernel_rfl) (by kernel_rfl) (by kernel_rfl) (fun _ _ _ h => h) (Or.inl ⟨by rfl, ?_⟩) (by assumption) ?_
    rotate_left
    · (intro w hSw; (try dsimp only at hSw); go_simp; try with_reducible rfl)
    (try simp only [Act.put, List.setIfInBounds_toArray, List.set_cons_zero, List.set_cons_succ])
    refine take_first (v := undef) 4 rfl (by kernel_rfl) (by kernel_rfl) (by kernel_rfl) (fun _ _ _ h => h) (Or.inr ⟨by rfl, rfl⟩) (by assumption) ?_
    (try simp only [Act.put, List.setIfInBounds_toArray, List.set_cons_zero, List.set_cons_succ])
    refine take_first (v := undef) 5 rfl (by kernel_rfl) (by kernel_rfl) (by kernel_rfl) (fun _ _ _ h => h) (Or.inr ⟨by rfl, rfl⟩) (by assumption) ?_
    (try simp only [Act.put, List.setIfInBounds_toArray, List.set_cons_zero, List.set_cons_succ])
    refine take_first (v := undef) 6 rfl (by kernel_rfl) (by kernel_rfl) (by kernel_rfl) (fun _ _ _ h => h) (Or.inr ⟨by rfl, rfl⟩) (by assumption) ?_
    (try simp only [Act.put, List.setIfInBounds_toArray, List.set_cons_zero, List.set_cons_succ])
    refine take_first (v := undef) 7 rfl (by kernel_rfl) (by kernel_rfl) (by kernel_rfl) (fun _ _ _ h => h) (Or.inr ⟨by rfl, rfl⟩) (by assumption) ?_
    (try simp only [Act.put, List.setIfInBounds_toArray, List.set_cons_zero, List.set_cons_succ])
    refine take_first (v := undef) 8 rfl (by kernel_rfl) (by kernel_rfl) (by kernel_rfl) (fun _ _ _ h => h) (Or.inr ⟨by rfl, rfl⟩) (by assumption) ?_
    (try simp only [Act.put, List.setIfInBounds_toArray, List.set_cons_zero, List.set_cons_succ])
    refine take_first (v := undef) 9 rfl (by kernel_rfl) (by kernel_rfl) (by kernel_rfl) (fun _ _ _ h => h) (Or.inr ⟨by rfl, rfl⟩) (by assumption) ?_
    (try simp only [Act.put, List.setIfInBounds_toArray, List.set_cons_zero, List.set_cons_succ])
    refine take_first (v := ?_) 10 rfl (by kernel_rfl) (by kernel_rfl) (by kernel_rfl) (fun _ _ _ h => h) (Or.inl ⟨by rfl, ?_⟩) (by assumption) ?_
    rotate_left
    · (intro w hSw; (try dsimp only at hSw); go_simp; try with_reducible rfl)
    (try simp only [Act.put, List.setIfInBounds_toArray, List.set_cons_zero, List.set_cons_succ])
    refine take_first (v := ?_) 11 rfl (by kernel_rfl) (by kernel_rfl) (by kernel_rfl) (fun _ _ _ h => h) (Or.inl ⟨by rfl, ?_⟩) (by assumption) ?_
    rotate_left
    · (intro w hSw; (try dsimp only at hSw); go_simp; try with_reducible rfl)
    (try simp only [Act.put, List.setIfInBounds_toArray, List.set_cons_zero, List.set_cons_succ])
    refine take_first (v := undef) 12 rfl (by kernel_rfl) (by kernel_rfl) (by kernel_rfl) (fun _ _ _ h => h) (Or.inr ⟨by rfl, rfl⟩) (by assumption) ?_
    (try simp only [Act.put, List.setIfInBounds_toArray, List.set_cons_zero, List.set_cons_succ])
    refine take_first (v := undef) 13 rfl (by kernel_rfl) (by kernel_rfl) (by kernel_rfl) (fun _ _ _ h => h) (Or.inr ⟨by rfl, rfl⟩) (by assumption) ?_
    (try simp only [Act.put, List.setIfInBounds_toArray, List.set_cons_zero, List.set_cons_succ])
    refine take_first (v := undef) 14 rfl (by kernel_rfl) (by kernel_rfl) (by kernel_rfl) (fun _ _ _ h => h) (Or.inr ⟨by rfl, rfl⟩) (by assumption) ?_
    (try simp only [Act.put, List.setIfInBounds_toArray, List.set_cons_zero, List.set_cons_succ])
    refine take_first (v := undef) 15 rfl (by kernel_rfl) (by kernel_rfl) (by kernel_rfl) (fun _ _ _ h => h) (Or.inr ⟨by rfl, rfl⟩) (by assumption) ?_
    (try simp only [Act.put, List.setIfInBounds_toArray, List.set_cons_zero, List.set_cons_succ])
    refine take_first (v := undef) 16 rfl (by kernel_rfl) (by kernel_rfl) (by kernel_rfl) (fun _ _ _ h => h) (Or.inr ⟨by rfl, rfl⟩) (by assumption) ?_
    (try simp only [Act.put, List.setIfInBounds_toArray, List.set_cons_zero, List.set_cons_succ])
    refine take_first (v := undef) 17 rfl (by kernel_rfl) (by kernel_rfl) (by kernel_rfl) (fun _ _ _ h => h) (Or.inr ⟨by rfl, rfl⟩) (by assumption) ?_
    (try simp only [Act.put, List.setIfInBounds_toArray, List.set_cons_zero, List.set_cons_succ])
    refine take_first (v := undef) 18 rfl (by kernel_rfl) (by kernel_rfl) (by kernel_rfl) (fun _ _ _ h => h) (Or.inr ⟨by rfl, rfl⟩) (by assumption) ?_
    (try simp only [Act.put, List.setIfInBounds_toArray, List.set_cons_zero, List.set_cons_succ])
    refine take_first (v := undef) 19 rfl (by kernel_rfl) (by kernel_rfl) (by kernel_rfl) (fun _ _ _ h => h) (Or.inr ⟨by rfl, rfl⟩) (by assumption) ?_
    (try simp only [Act.put, List.setIfInBounds_toArray, List.set_cons_zero, List.set_cons_succ])
    refine take_first (v := ?_) 20 rfl (by kernel_rfl) (by kernel_rfl) (by kernel_rfl) (fun _ _ _ h => h) (Or.inl ⟨by rfl, ?_⟩) (by assumption) ?_
    rotate_left
    · (intro w hSw; (try dsimp only at hSw); go_simp; try with_reducible rfl)
    (try simp only [Act.put, List.setIfInBounds_toArray, List.set_cons_zero, List.set_cons_succ])
    refine take_first (v := ?_) 21 rfl (by kernel_rfl) (by kernel_rfl) (by kernel_rfl) (fun _ _ _ h => h) (Or.inl ⟨by rfl, ?_⟩) (by assumption) ?_
    rotate_left
    · (intro w hSw; (try dsimp only at hSw); go_simp; try with_reducible rfl)
    (try simp only [Act.put, List.setIfInBounds_toArray, List.set_cons_zero, List.set_cons_succ])
    refine wpAnyH_done (by kernel_rfl) ?_ _
    clear hHeld
    go_wp2
    go_ret
    exact ⟨by first | rfl | (rw [HR.out]; rfl), HM.out.bel⟩
set_option maxRecDepth 100000 in
set_option maxHeartbeats 4000000 in
theorem contains_any (a : AddrM) (bits : Int) (h : a.ok) (x : AddrM) (hx : x.ok) (w : World) :
    Calls Try.prog 46 #[.agg (prefC a bits).toArray, .agg x.cells.toArray] w fun e w' => e = .returned (.bool (containsM a bits x)) ∧ Below w.heap.size w w' := by
  have hcf0 := contains_first a x h hx bits
  have hvf := valid_first a h bits
  have hva := fun W : World => valid_any a bits h W
  have hsx := fun W : World => validAddress_any x hx W
  have hwl := widthM_128 a
  obtain ⟨cp, hcp⟩ : ∃ c, (prefC a bits).toArray = c := ⟨_, rfl⟩
  obtain ⟨cx, hcx⟩ : ∃ c, x.cells.toArray = c := ⟨_, rfl⟩
  obtain ⟨ca, hca⟩ : ∃ c, a.cells.toArray = c := ⟨_, rfl⟩
  obtain ⟨vv, hvv⟩ : ∃ r, containsM a bits x = r := ⟨_, rfl⟩
  obtain ⟨va, hvva⟩ : ∃ r, validM a bits = r := ⟨_, rfl⟩
  obtain ⟨sx, hsxx⟩ : ∃ r, soundM x = r := ⟨_, rfl⟩
  simp only [hcp, hcx, hvv, hvva, hsxx] at hcf0 hvf hva hsx ⊢
  have HM := Lib.hid (show Mem w [blkE (w.heap.size + 1) 26 x.cells, blkE w.heap.size 28 (prefC a bits)] ((w.alloc (.cells cp 28)).alloc (.cells cx 26)) from ((Mem.nil w).alloc rfl 28 cp (prefC a bits) hcp.symm).alloc (by simp) 26 cx x.cells hcx.symm)
  have HO := Lib.hid h
  have HOX := Lib.hid hx
  have HCA := Lib.hid hca
  have HCX := Lib.hid hcx
  have HCP := Lib.hid hcp
  clear hvv hvva hsxx
  go_enter Try.func46, Try.ntmps46
  go_upto_region 1 with fail
  generalize ((w.alloc (.cells cp 28)).alloc (.cells cx 26)) = w1 at HM ⊢
  cases va with
  | false =>
    have HVA := Lib.hid hva
    have HR := Lib.hid (show vv = false by rw [hcf0]; simp)
    clear hva hsx hcf0 hvf h hx hwl hca hcx hcp
    refine wp_region_held_drew (S := fun W' => Mem w [blkE (w.heap.size + 1) 26 x.cells, blkE w.heap.size 28 (prefC a bits)] W') (by kernel_rfl) ((HM.out).drew) (fun hHeld => ?_)
    replace HM := Lib.hid HM.out.drew
    generalize w1.drew = wd1 at HM hHeld ⊢
    refine take_first (v := .agg cp) 0 rfl (by kernel_rfl) (by kernel_rfl) (by kernel_rfl) (fun _ _ _ h => h) (by rw [← HCP.out]; exact yields_load_obj (by rfl) 28 (.tmp 2) rfl w.heap.size 0 rfl (prefC a bits) (fun w' hb => (Mem.blk hb 1 rfl).all) _ Try.underlying28 rfl (pref_cellsOf _ HO.out _)) (by assumption) ?_
    (try simp only [Act.put, List.setIfInBounds_toArray, List.set_cons_zero, List.set_cons_succ])
    refine step_one 1 rfl (by kernel_rfl) (fun K hK => ?_)
    clear hHeld
    go_simp
    refine (HVA.out _).mono ?_
    rintro e wy2 ⟨rfl, hb⟩
    replace HM := Lib.hid (show Mem w [blkE (w.heap.size + 1) 26 x.cells, blkE w.heap.size 28 (prefC a bits)] wy2 from HM.out.below hb)
    clear hb
    go_wp2_with fail
    refine hK.out _ _ (HM.out) (fun hHeld => ?_)
    clear hK K
    (try simp only [Act.put, List.setIfInBounds_toArray, List.set_cons_zero, List.set_cons_succ])
    refine take_first (v := ?_) 2 rfl (by kernel_rfl) (by kernel_rfl) (by kernel_rfl) (fun _ _ _ h => h) (Or.inl ⟨by rfl, ?_⟩) (by assumption) ?_
    rotate_left
    · (intro w hSw; (try dsimp only at hSw); go_simp; try with_reducible rfl)
    (try simp only [Act.put, List.setIfInBounds_toArray, List.set_cons_zero, List.set_cons_succ])
    refine take_first (v := undef) 3 rfl (by kernel_rfl) (by kernel_rfl) (by kernel_rfl) (fun _ _ _ h => h) (Or.inr ⟨by rfl, rfl⟩) (by assumption) ?_
    (try simp only [Act.put, List.setIfInBounds_toArray, List.set_cons_zero, List.set_cons_succ])
    refine take_first (v := undef) 4 rfl (by kernel_rfl) (by kernel_rfl) (by kernel_rfl) (fun _ _ _ h => h) (Or.inr ⟨by rfl, rfl⟩) (by assumption) ?_
    (try simp only [Act.put, List.setIfInBounds_toArray, List.set_cons_zero, List.set_cons_succ])
    refine take_first (v := ?_) 5 rfl (by kernel_rfl) (by kernel_rfl) (by kernel_rfl) (fun _ _ _ h => h) (Or.inl ⟨by rfl, ?_⟩) (by assumption) ?_
    rotate_left
    · (intro w hSw; (try dsimp only at hSw); go_simp; try with_reducible rfl)
    (try simp only [Act.put, List.setIfInBounds_toArray, List.set_cons_zero, List.set_cons_succ])
    refine take_first (v := ?_) 6 rfl (by kernel_rfl) (by kernel_rfl) (by kernel_rfl) (fun _ _ _ h => h) (Or.inl ⟨by rfl, ?_⟩) (by assumption) ?_
    rotate_left
    · (intro w hSw; (try dsimp only at hSw); go_simp; try with_reducible rfl)
    (try simp only [Act.put, List.setIfInBounds_toArray, List.set_cons_zero, List.set_cons_succ])
    refine take_first (v := undef) 7 rfl (by kernel_rfl) (by kernel_rfl) (by kernel_rfl) (fun _ _ _ h => h) (Or.inr ⟨by rfl, rfl⟩) (by assumption) ?_
    (try simp only [Act.put, List.setIfInBounds_toArray, List.set_cons_zero, List.set_cons_succ])
    refine take_first (v := undef) 8 rfl (by kernel_rfl) (by kernel_rfl) (by kernel_rfl) (fun _ _ _ h => h) (Or.inr ⟨by rfl, rfl⟩) (by assumption) ?_
    (try simp only [Act.put, List.setIfInBounds_toArray, List.set_cons_zero, List.set_cons_succ])
    refine take_first (v := undef) 9 rfl (by kernel_rfl) (by kernel_rfl) (by kernel_rfl) (fun _ _ _ h => h) (Or.inr ⟨by rfl, rfl⟩) (by assumption) ?_
    (try simp only [Act.put, List.setIfInBounds_toArray, List.set_cons_zero, List.set_cons_succ])
    refine take_first (v := undef) 10 rfl (by kernel_rfl) (by kernel_rfl) (by kernel_rfl) (fun _ _ _ h => h) (Or.inr ⟨by rfl, rfl⟩) (by assumption) ?_
    (try simp only [Act.put, List.setIfInBounds_toArray, List.set_cons_zero, List.set_cons_succ])
    refine take_first (v := undef) 11 rfl (by kernel_rfl) (by kernel_rfl) (by kernel_rfl) (fun _ _ _ h => h) (Or.inr ⟨by rfl, rfl⟩) (by assumption) ?_
    (try simp only [Act.put, List.setIfInBounds_toArray, List.set_cons_zero, List.set_cons_succ])
    refine take_first (v := undef) 12 rfl (by kernel_rfl) (by kernel_rfl) (by kernel_rfl) (fun _ _ _ h => h) (Or.inr ⟨by rfl, rfl⟩) (by assumption) ?_
    (try simp only [Act.put, List.setIfInBounds_toArray, List.set_cons_zero, List.set_cons_succ])
    refine take_first (v := undef) 13 rfl (by kernel_rfl) (by kernel_rfl) (by kernel_rfl) (fun _ _ _ h => h) (Or.inr ⟨by rfl, rfl⟩) (by assumption) ?_
    (try simp only [Act.put, List.setIfInBounds_toArray, List.set_cons_zero, List.set_cons_succ])
    refine take_first (v := ?_) 14 rfl (by kernel_rfl) (by kernel_rfl) (by kernel_rfl) (fun _ _ _ h => h) (Or.inl ⟨by rfl, ?_⟩) (by assumption) ?_
    rotate_left
    · (intro w hSw; (try dsimp only at hSw); go_simp; try with_reducible rfl)
    (try simp only [Act.put, List.setIfInBounds_toArray, List.set_cons_zero, List.set_cons_succ])
    refine take_first (v := ?_) 15 rfl (by kernel_rfl) (by kernel_rfl) (by kernel_rfl) (fun _ _ _ h => h) (Or.inl ⟨by rfl, ?_⟩) (by assumption) ?_
    rotate_left
    · (intro w hSw; (try dsimp only at hSw); go_simp; try with_reducible rfl)
    (try simp only [Act.put, List.setIfInBounds_toArray, List.set_cons_zero, List.set_cons_succ])
    refine wpAnyH_done (by kernel_rfl) ?_ _
    clear hHeld
    go_wp2
    go_ret
    exact ⟨by first | rfl | (rw [HR.out]; rfl), HM.out.bel⟩
  | true =>
    cases sx with
    | false =>
      have HVA := Lib.hid hva
      have HSX := Lib.hid hsx
      have HR := Lib.hid (show vv = false by rw [hcf0]; simp)
      clear hva hsx hcf0 hvf h hx hwl hca hcx hcp
      refine wp_region_held_drew (S := fun W' => Mem w [blkE (w.heap.size + 1) 26 x.cells, blkE w.heap.size 28 (prefC a bits)] W') (by kernel_rfl) ((HM.out).drew) (fun hHeld => ?_)
      replace HM := Lib.hid HM.out.drew
      generalize w1.drew = wd1 at HM hHeld ⊢
      refine take_first (v := .agg cp) 0 rfl (by kernel_rfl) (by kernel_rfl) (by kernel_rfl) (fun _ _ _ h => h) (by rw [← HCP.out]; exact yields_load_obj (by rfl) 28 (.tmp 2) rfl w.heap.size 0 rfl (prefC a bits) (fun w' hb => (Mem.blk hb 1 rfl).all) _ Try.underlying28 rfl (pref_cellsOf _ HO.out _)) (by assumption) ?_
      (try simp only [Act.put, List.setIfInBounds_toArray, List.set_cons_zero, List.set_cons_succ])
      refine step_one 1 rfl (by kernel_rfl) (fun K hK => ?_)
      clear hHeld
      go_simp
      refine (HVA.out _).mono ?_
      rintro e wy2 ⟨rfl, hb⟩
      replace HM := Lib.hid (show Mem w [blkE (w.heap.size + 1) 26 x.cells, blkE w.heap.size 28 (prefC a bits)] wy2 from HM.out.below hb)
      clear hb
      go_wp2_with fail
      refine hK.out _ _ (HM.out) (fun hHeld => ?_)
      clear hK K
      (try simp only [Act.put, List.setIfInBounds_toArray, List.set_cons_zero, List.set_cons_succ])
      refine take_first (v := ?_) 2 rfl (by kernel_rfl) (by kernel_rfl) (by kernel_rfl) (fun _ _ _ h => h) (Or.inl ⟨by rfl, ?_⟩) (by assumption) ?_
      rotate_left
      · (intro w hSw; (try dsimp only at hSw); go_simp; try with_reducible rfl)
      (try simp only [Act.put, List.setIfInBounds_toArray, List.set_cons_zero, List.set_cons_succ])
      refine take_first (v := .agg cx) 3 rfl (by kernel_rfl) (by kernel_rfl) (by kernel_rfl) (fun _ _ _ h => h) (by rw [← HCX.out]; exact yields_load_obj (by rfl) 26 (.tmp 3) rfl (w.heap.size + 1) 0 rfl x.cells (fun w' hb => (Mem.blk hb 0 rfl).all) _ Try.underlying26 rfl (addr_cellsOf _ HOX.out)) (by assumption) ?_
      (try simp only [Act.put, List.setIfInBounds_toArray, List.set_cons_zero, List.set_cons_succ])
      refine step_one 4 rfl (by kernel_rfl) (fun K hK => ?_)
      clear hHeld
      go_simp
      refine (HSX.out _).mono ?_
      rintro e wy3 ⟨rfl, hb⟩
      replace HM := Lib.hid (show Mem w [blkE (w.heap.size + 1) 26 x.cells, blkE w.heap.size 28 (prefC a bits)] wy3 from HM.out.below hb)
      clear hb
      go_wp2_with fail
      refine hK.out _ _ (HM.out) (fun hHeld => ?_)
      clear hK K
      (try simp only [Act.put, List.setIfInBounds_toArray, List.set_cons_zero, List.set_cons_succ])
      refine take_first (v := ?_) 5 rfl (by kernel_rfl) (by kernel_rfl) (by kernel_rfl) (fun _ _ _ h => h) (Or.inl ⟨by rfl, ?_⟩) (by assumption) ?_
      rotate_left
      · (intro w hSw; (try dsimp only at hSw); go_simp; try with_reducible rfl)
      (try simp only [Act.put, List.setIfInBounds_toArray, List.set_cons_zero, List.set_cons_succ])
      refine take_first (v := ?_) 6 rfl (by kernel_rfl) (by kernel_rfl) (by kernel_rfl) (fun _ _ _ h => h) (Or.inl ⟨by rfl, ?_⟩) (by assumption) ?_
      rotate_left
      · (intro w hSw; (try dsimp only at hSw); go_simp; try with_reducible rfl)
      (try simp only [Act.put, List.setIfInBounds_toArray, List.set_cons_zero, List.set_cons_succ])
      refine take_first (v := undef) 7 rfl (by kernel_rfl) (by kernel_rfl) (by kernel_rfl) (fun _ _ _ h => h) (Or.inr ⟨by rfl, rfl⟩) (by assumption) ?_
      (try simp only [Act.put, List.setIfInBounds_toArray, List.set_cons_zero, List.set_cons_succ])
      refine take_first (v := undef) 8 rfl (by kernel_rfl) (by kernel_rfl) (by kernel_rfl) (fun _ _ _ h => h) (Or.inr ⟨by rfl, rfl⟩) (by assumption) ?_
      (try simp only [Act.put, List.setIfInBounds_toArray, List.set_cons_zero, List.set_cons_succ])
      refine take_first (v := undef) 9 rfl (by kernel_rfl) (by kernel_rfl) (by kernel_rfl) (fun _ _ _ h => h) (Or.inr ⟨by rfl, rfl⟩) (by assumption) ?_
      (try simp only [Act.put, List.setIfInBounds_toArray, List.set_cons_zero, List.set_cons_succ])
      refine take_first (v := undef) 10 rfl (by kernel_rfl) (by kernel_rfl) (by kernel_rfl) (fun _ _ _ h => h) (Or.inr ⟨by rfl, rfl⟩) (by assumption) ?_
      (try simp only [Act.put, List.setIfInBounds_toArray, List.set_cons_zero, List.set_cons_succ])
      refine take_first (v := undef) 11 rfl (by kernel_rfl) (by kernel_rfl) (by kernel_rfl) (fun _ _ _ h => h) (Or.inr ⟨by rfl, rfl⟩) (by assumption) ?_
      (try simp only [Act.put, List.setIfInBounds_toArray, List.set_cons_zero, List.set_cons_succ])
      refine take_first (v := undef) 12 rfl (by kernel_rfl) (by kernel_rfl) (by kernel_rfl) (fun _ _ _ h => h) (Or.inr ⟨by rfl, rfl⟩) (by assumption) ?_
      (try simp only [Act.put, List.setIfInBounds_toArray, List.set_cons_zero, List.set_cons_succ])
      refine take_first (v := undef) 13 rfl (by kernel_rfl) (by kernel_rfl) (by kernel_rfl) (fun _ _ _ h => h) (Or.inr ⟨by rfl, rfl⟩) (by assumption) ?_
      (try simp only [Act.put, List.setIfInBounds_toArray, List.set_cons_zero, List.set_cons_succ])
      refine take_first (v := ?_) 14 rfl (by kernel_rfl) (by kernel_rfl) (by kernel_rfl) (fun _ _ _ h => h) (Or.inl ⟨by rfl, ?_⟩) (by assumption) ?_
      rotate_left
      · (intro w hSw; (try dsimp only at hSw); go_simp; try with_reducible rfl)
      (try simp only [Act.put, List.setIfInBounds_toArray, List.set_cons_zero, List.set_cons_succ])
      refine take_first (v := ?_) 15 rfl (by kernel_rfl) (by kernel_rfl) (by kernel_rfl) (fun _ _ _ h => h) (Or.inl ⟨by rfl, ?_⟩) (by assumption) ?_
      rotate_left
      · (intro w hSw; (try dsimp only at hSw); go_simp; try with_reducible rfl)
      (try simp only [Act.put, List.setIfInBounds_toArray, List.set_cons_zero, List.set_cons_succ])
      refine wpAnyH_done (by kernel_rfl) ?_ _
      clear hHeld
      go_wp2
      go_ret
      exact ⟨by first | rfl | (rw [HR.out]; rfl), HM.out.bel⟩
    | true =>
      have HVA := Lib.hid hva
      have HSX := Lib.hid hsx
      have hv2 := hvf.symm
      rw [Bool.and_eq_true, Bool.and_eq_true, decide_eq_true_iff, decide_eq_true_iff] at hv2
      rw [Bool.true_and, Bool.true_and] at hcf0
      obtain ⟨k, hk⟩ : ∃ k : Nat, bits = (k : Int) := ⟨bits.toNat, by omega⟩
      have hfs := fun W : World => first_any x hx k (by omega) W
      have heq := fun W : World => addr_eq (firstM x k) a (firstM_ok x hx _) h W
      have hkn : bits.toNat = k := by omega
      rw [hkn] at hcf0
      obtain ⟨cf, hcf⟩ : ∃ c, (firstM x k).cells.toArray = c := ⟨_, rfl⟩
      rw [← hcf0] at heq
      rw [← hk] at hfs
      simp only [hca, hcx, hcf] at hfs heq
      have HFS := Lib.hid hfs
      have HEQ := Lib.hid heq
      have HR := Lib.hid (Eq.refl vv)
      clear hva hsx hcf0 hvf h hx hwl hca hcx hcp hfs heq hv2 hkn hk hcf
      refine wp_region_held_drew (S := fun W' => Mem w [blkE (w.heap.size + 1) 26 x.cells, blkE w.heap.size 28 (prefC a bits)] W') (by kernel_rfl) ((HM.out).drew) (fun hHeld => ?_)
      replace HM := Lib.hid HM.out.drew
      generalize w1.drew = wd1 at HM hHeld ⊢
      refine take_first (v := .agg cp) 0 rfl (by kernel_rfl) (by kernel_rfl) (by kernel_rfl) (fun _ _ _ h => h) (by rw [← HCP.out]; exact yields_load_obj (by rfl) 28 (.tmp 2) rfl w.heap.size 0 rfl (prefC a bits) (fun w' hb => (Mem.blk hb 1 rfl).all) _ Try.underlying28 rfl (pref_cellsOf _ HO.out _)) (by assumption) ?_
      (try simp only [Act.put, List.setIfInBounds_toArray, List.set_cons_zero, List.set_cons_succ])
      refine step_one 1 rfl (by kernel_rfl) (fun K hK => ?_)
      clear hHeld
      go_simp
      refine (HVA.out _).mono ?_
      rintro e wy2 ⟨rfl, hb⟩
      replace HM := Lib.hid (show Mem w [blkE (w.heap.size + 1) 26 x.cells, blkE w.heap.size 28 (prefC a bits)] wy2 from HM.out.below hb)
      clear hb
      go_wp2_with fail
      refine hK.out _ _ (HM.out) (fun hHeld => ?_)
      clear hK K
      (try simp only [Act.put, List.setIfInBounds_toArray, List.set_cons_zero, List.set_cons_succ])
      refine take_first (v := ?_) 2 rfl (by kernel_rfl) (by kernel_rfl) (by kernel_rfl) (fun _ _ _ h => h) (Or.inl ⟨by rfl, ?_⟩) (by assumption) ?_
      rotate_left
      · (intro w hSw; (try dsimp only at hSw); go_simp; try with_reducible rfl)
      (try simp only [Act.put, List.setIfInBounds_toArray, List.set_cons_zero, List.set_cons_succ])
      refine take_first (v := .agg cx) 3 rfl (by kernel_rfl) (by kernel_rfl) (by kernel_rfl) (fun _ _ _ h => h) (by rw [← HCX.out]; exact yields_load_obj (by rfl) 26 (.tmp 3) rfl (w.heap.size + 1) 0 rfl x.cells (fun w' hb => (Mem.blk hb 0 rfl).all) _ Try.underlying26 rfl (addr_cellsOf _ HOX.out)) (by assumption) ?_
      (try simp only [Act.put, List.setIfInBounds_toArray, List.set_cons_zero, List.set_cons_succ])
      refine step_one 4 rfl (by kernel_rfl) (fun K hK => ?_)
      clear hHeld
      go_simp
      refine (HSX.out _).mono ?_
      rintro e wy3 ⟨rfl, hb⟩
      replace HM := Lib.hid (show Mem w [blkE (w.heap.size + 1) 26 x.cells, blkE w.heap.size 28 (prefC a bits)] wy3 from HM.out.below hb)
      clear hb
      go_wp2_with fail
      refine hK.out _ _ (HM.out) (fun hHeld => ?_)
      clear hK K
      (try simp only [Act.put, List.setIfInBounds_toArray, List.set_cons_zero, List.set_cons_succ])
      refine take_first (v := ?_) 5 rfl (by kernel_rfl) (by kernel_rfl) (by kernel_rfl) (fun _ _ _ h => h) (Or.inl ⟨by rfl, ?_⟩) (by assumption) ?_
      rotate_left
      · (intro w hSw; (try dsimp only at hSw); go_simp; try with_reducible rfl)
      (try simp only [Act.put, List.setIfInBounds_toArray, List.set_cons_zero, List.set_cons_succ])
      refine take_first (v := ?_) 6 rfl (by kernel_rfl) (by kernel_rfl) (by kernel_rfl) (fun _ _ _ h => h) (Or.inl ⟨by rfl, ?_⟩) (by assumption) ?_
      rotate_left
      · (intro w hSw; (try dsimp only at hSw); go_simp; try with_reducible rfl)
      (try simp only [Act.put, List.setIfInBounds_toArray, List.set_cons_zero, List.set_cons_succ])
      refine take_first (v := .agg cx) 7 rfl (by kernel_rfl) (by kernel_rfl) (by kernel_rfl) (fun _ _ _ h => h) (by rw [← HCX.out]; exact yields_load_obj (by rfl) 26 (.tmp 3) rfl (w.heap.size + 1) 0 rfl x.cells (fun w' hb => (Mem.blk hb 0 rfl).all) _ Try.underlying26 rfl (addr_cellsOf _ HOX.out)) (by assumption) ?_
      (try simp only [Act.put, List.setIfInBounds_toArray, List.set_cons_zero, List.set_cons_succ])
      refine take_first (v := ?_) 8 rfl (by kernel_rfl) (by kernel_rfl) (by kernel_rfl) (fun _ _ _ h => h) (Or.inl ⟨by rfl, ?_⟩) (by assumption) ?_
      rotate_left
      · (intro w hSw; (try dsimp only at hSw); go_simp; try with_reducible rfl)
      (try simp only [Act.put, List.setIfInBounds_toArray, List.set_cons_zero, List.set_cons_succ])
      refine take_first (v := ?_) 9 rfl (by kernel_rfl) (by kernel_rfl) (by kernel_rfl) (fun _ _ _ h => h) (Or.inl ⟨by rfl, ?_⟩) (by assumption) ?_
      rotate_left
      · (intro w hSw; (try dsimp only at hSw); have fb := (Mem.blk hSw 1 rfl).cell 17; rw [prefC_bits a HO.out bits] at fb; go_simp; try with_reducible rfl)
      (try simp only [Act.put, List.setIfInBounds_toArray, List.set_cons_zero, List.set_cons_succ])
      refine take_first (v := ?_) 11 rfl (by kernel_rfl) (by kernel_rfl) (by kernel_rfl) (fun _ _ _ h => h) (Or.inl ⟨by rfl, ?_⟩) (by assumption) ?_
      rotate_left
      · (intro w hSw; (try dsimp only at hSw); go_simp; try with_reducible rfl)
      (try simp only [Act.put, List.setIfInBounds_toArray, List.set_cons_zero, List.set_cons_succ])
      refine take_first (v := .agg ca) 12 rfl (by kernel_rfl) (by kernel_rfl) (by kernel_rfl) (fun _ _ _ h => h) (by rw [← HCA.out]; exact yields_load_obj (by rfl) 26 (.tmp 16) rfl w.heap.size 0 rfl a.cells (fun w' hb => by have h := (Mem.blk hb 1 rfl).sub 0 17; rw [prefC_addr a HO.out bits] at h; exact h) _ Try.underlying26 rfl (addr_cellsOf _ HO.out)) (by assumption) ?_
      (try simp only [Act.put, List.setIfInBounds_toArray, List.set_cons_zero, List.set_cons_succ])
      refine step_one 10 rfl (by kernel_rfl) (fun K hK => ?_)
      clear hHeld
      go_simp
      refine (HFS.out _).mono ?_
      rintro e wy4 ⟨rfl, hb⟩
      replace HM := Lib.hid (show Mem w [blkE (w.heap.size + 1) 26 x.cells, blkE w.heap.size 28 (prefC a bits)] wy4 from HM.out.below hb)
      clear hb
      go_wp2_with fail
      refine hK.out _ _ (HM.out) (fun hHeld => ?_)
      clear hK K
      (try simp only [Act.put, List.setIfInBounds_toArray, List.set_cons_zero, List.set_cons_succ])
      refine take_first (v := ?_) 13 rfl (by kernel_rfl) (by kernel_rfl) (by kernel_rfl) (fun _ _ _ h => h) (Or.inl ⟨by rfl, ?_⟩) (by assumption) ?_
      rotate_left
      · (intro w hSw; (try dsimp only at hSw); refine (run_eql_agg _ _ 26 26 15 17 ?_ cf ca vv w ?_ ?_ addr_noguard (HEQ.out w)).trans ?_ <;> first | with_reducible rfl | rfl)
      (try simp only [Act.put, List.setIfInBounds_toArray, List.set_cons_zero, List.set_cons_succ])
      refine take_first (v := ?_) 14 rfl (by kernel_rfl) (by kernel_rfl) (by kernel_rfl) (fun _ _ _ h => h) (Or.inl ⟨by rfl, ?_⟩) (by assumption) ?_
      rotate_left
      · (intro w hSw; (try dsimp only at hSw); go_simp; try with_reducible rfl)
      (try simp only [Act.put, List.setIfInBounds_toArray, List.set_cons_zero, List.set_cons_succ])
      refine take_first (v := ?_) 15 rfl (by kernel_rfl) (by kernel_rfl) (by kernel_rfl) (fun _ _ _ h => h) (Or.inl ⟨by rfl, ?_⟩) (by assumption) ?_
      rotate_left
      · (intro w hSw; (try dsimp only at hSw); go_simp; try with_reducible rfl)
      (try simp only [Act.put, List.setIfInBounds_toArray, List.set_cons_zero, List.set_cons_succ])
      refine wpAnyH_done (by kernel_rfl) ?_ _
      clear hHeld
      go_wp2
      go_ret
      exact ⟨by first | rfl | (rw [HR.out]; rfl), HM.out.bel⟩
end Go.Proofs.Ytnblofbbbkjhpaa
namespace Go.Proofs.Ytnblofbbbkjhpaa
open Go.RowKit

end Go.Proofs.Ytnblofbbbkjhpaa
namespace Go.Proofs.Ytnblofbbbkjhpaa
open Go.RowKit

theorem loadBytes_rd {P : Program} : ∀ (l : List UInt8) (w : World) (b off : Nat) (acc : ByteArray), (∀ j (h : j < l.length), w.cell? ⟨b, off + j, none⟩ = some (.int .u8 (l[j].toNat : Int))) →
    (Extern.Bytes.loadBytes ⟨b, off, none⟩ l.length acc).run P w = .ok ⟨acc.data ++ l.toArray⟩ w
  | [], w, b, off, acc, _ => by simp [Extern.Bytes.loadBytes]
  | x :: l, w, b, off, acc, h => by
    have h0 := h 0 (by simp)
    rw [Nat.add_zero] at h0
    have ih := loadBytes_rd (P := P) l w b (off + 1) (acc.push x) (fun j hj => by
      have := h (j + 1) (by simp; omega)
      rw [show off + 1 + j = off + (j + 1) by omega]
      simpa using this)
    have e1 : (Addr.add ⟨b, off, none⟩ 1) = ⟨b, off + 1, none⟩ := by simp [Go.WideShapes.add_plain]
    simp only [List.length_cons, Extern.Bytes.loadBytes, Sem.run_bind, run_load, h0, Result.andThen]
    simp only [List.getElem_cons_zero, Int.toNat_natCast, Nat.toUInt8_eq, UInt8.ofNat_toNat, e1]
    rw [ih]
    congr 1
    simp [ByteArray.push]
theorem bytesOf_rd {P : Program} {w : World} {B n c : Nat} {A : Option Addr} {l : List UInt8} (h : Rd w B A n l) : (Extern.Bytes.bytesOf (.slice A n c)).run P w = .ok ⟨l.toArray⟩ w := by
  rcases Nat.eq_zero_or_pos n with h0 | h0
  · have : l = [] := List.eq_nil_of_length_eq_zero (by rw [h.1, h0])
    subst this
    subst h0
    cases A with
    | none => simp [Extern.Bytes.bytesOf]; rfl
    | some a => simp [Extern.Bytes.bytesOf, Extern.Bytes.loadBytes]; rfl
  · obtain ⟨b, off, rfl, _, hc⟩ := h.at_ h0
    have := loadBytes_rd (P := P) l w b off .empty hc
    rw [h.1] at this
    simp [Extern.Bytes.bytesOf, this]
set_option maxRecDepth 100000 in
theorem compare_any (n m c d B B' : Nat) (A A' : Option Addr) (a b : List UInt8) (w : World) (ha : Rd w B A n a) (hb : Rd w B' A' m b) :
    Calls Try.prog 57 #[.slice A n c, .slice A' m d] w fun e w' => e = .returned (.int .i64 (Lib.compareBytes a b)) ∧ w = w' := by
  have hx : (callFunc 58 #[.slice A n c, .slice A' m d]).run Try.prog w = .ok (.value (.int .i64 (Lib.compareBytes a b))) w := by
    rw [run_callFunc_extern Try.func58 (by kernel_rfl) (by kernel_rfl) (by kernel_rfl) (e := Extern.BytealgCompare.compare) (by kernel_rfl)]
    have e1 : (Extern.BytealgCompare.compare #[.slice A n c, .slice A' m d]).run Try.prog w = .ok (.int .i64 (Lib.compareBytes a b)) w := by
      change Sem.run Try.prog (do pure (goInt (Extern.BytealgCompare.cmp (← Extern.Bytes.bytesOf (.slice A n c)) (← Extern.Bytes.bytesOf (.slice A' m d))))) w = _
      simp only [Sem.run_bind, Sem.run_pure, bytesOf_rd ha, bytesOf_rd hb, Result.andThen, Lib.cmp_eq]
      rfl
    rw [e1]
    rfl
  go_enter Try.func57, Try.ntmps57
  go_wp2
  go_ret
  exact ⟨rfl, rfl⟩
end Go.Proofs.Ytnblofbbbkjhpaa
namespace Go.Proofs.Ytnblofbbbkjhpaa
open Go.RowKit

theorem compare_less : ∀ (a b : List UInt8), decide (Lib.compareBytes a b < 0) = Op.bytesLess a b
  | [], [] => rfl
  | [], _ :: _ => rfl
  | _ :: _, [] => rfl
  | x :: a, y :: b => by
    have ih := compare_less a b
    unfold Lib.compareBytes Op.bytesLess
    by_cases h1 : x < y
    · rw [if_pos h1]; simp [h1]
    · by_cases h2 : y < x
      · have hne : (x == y) = false := by
          rw [beq_eq_false_iff_ne]
          intro e
          subst e
          exact h1 h2
        rw [if_neg h1, if_pos h2, hne]
        simp [h1]
      · have he : x = y := by
          apply UInt8.toNat.inj
          rw [UInt8.lt_iff_toNat_lt] at h1 h2
          omega
        subst he
        rw [if_neg h1, if_neg h2, ih]
        simp [h1]
set_option maxRecDepth 100000 in
set_option maxHeartbeats 4000000 in
theorem less_any (a b : AddrM) (ha : a.ok) (hb : b.ok) (w : World) :
    Calls Try.prog 55 #[.agg a.cells.toArray, .agg b.cells.toArray] w fun e w' => e = .returned (.bool (lessM a b)) ∧ Below w.heap.size w w' := by
  obtain ⟨ca, hca⟩ : ∃ x, a.cells.toArray = x := ⟨_, rfl⟩
  obtain ⟨cb, hcb⟩ : ∃ x, b.cells.toArray = x := ⟨_, rfl⟩
  rw [hca, hcb]
  have HM := Lib.hid (show Mem w [blkE (w.heap.size + 1) 26 b.cells, blkE w.heap.size 26 a.cells] ((w.alloc (.cells ca 26)).alloc (.cells cb 26)) from ((Mem.nil w).alloc rfl 26 ca a.cells hca.symm).alloc (by simp) 26 cb b.cells hcb.symm)
  have HOA := Lib.hid ha
  have HOB := Lib.hid hb
  have hcl := compare_less a.ip b.ip
  clear hca hcb ha hb
  go_enter Try.func55, Try.ntmps55
  go_upto_region 1 with fail
  generalize ((w.alloc (.cells ca 26)).alloc (.cells cb 26)) = w1 at HM ⊢
  have f1 := ((HM.out.blk 1 rfl).cell 0).trans (AddrM.six_cell a)
  have f2 := ((HM.out.blk 0 rfl).cell 0).trans (AddrM.six_cell b)
  by_cases h6 : a.six = b.six
  · have HE := Lib.hid (show decide (Lib.compareBytes a.ip b.ip < 0) = lessM a b by rw [lessM, if_pos h6, hcl])
    rw [h6] at f1
    have hne : (b.six != b.six) = false := by simp
    clear h6 hcl
    generalize b.six = sx at f1 f2 hne
    go_upto_region 3 with fail
    clear f1 f2 hne
    generalize w.heap.size = GA at HM ⊢
    refine wp_region_held_drew (S := fun W' => Mem w [blkE (GA + 1) 26 b.cells, blkE GA 26 a.cells] W') (by kernel_rfl) ((HM.out).drew) (fun hHeld => ?_)
    replace HM := Lib.hid HM.out.drew
    generalize w1.drew = wd1 at HM hHeld ⊢
    refine take_first (v := ?_) 0 rfl (by kernel_rfl) (by kernel_rfl) (by kernel_rfl) (fun _ _ _ h => h) (Or.inl ⟨by rfl, ?_⟩) (by assumption) ?_
    rotate_left
    · (intro w hSw; (try dsimp only at hSw); go_simp; try with_reducible rfl)
    (try simp only [Act.put, List.setIfInBounds_toArray, List.set_cons_zero, List.set_cons_succ])
    refine take_first (v := ?_) 1 rfl (by kernel_rfl) (by kernel_rfl) (by kernel_rfl) (fun _ _ _ h => h) (Or.inl ⟨by rfl, ?_⟩) (by assumption) ?_
    rotate_left
    · (intro w hSw; (try dsimp only at hSw); go_simp; try with_reducible rfl)
    (try simp only [Act.put, List.setIfInBounds_toArray, List.set_cons_zero, List.set_cons_succ])
    refine take_first (v := ?_) 2 rfl (by kernel_rfl) (by kernel_rfl) (by kernel_rfl) (fun _ _ _ h => h) (Or.inl ⟨by rfl, ?_⟩) (by assumption) ?_
    rotate_left
    · (intro w hSw; (try dsimp only at hSw); go_simp; try with_reducible rfl)
    (try simp only [Act.put, List.setIfInBounds_toArray, List.set_cons_zero, List.set_cons_succ])
    refine take_first (v := ?_) 3 rfl (by kernel_rfl) (by kernel_rfl) (by kernel_rfl) (fun _ _ _ h => h) (Or.inl ⟨by rfl, ?_⟩) (by assumption) ?_
    rotate_left
    · (intro w hSw; (try dsimp only at hSw); go_simp; try with_reducible rfl)
    (try simp only [Act.put, List.setIfInBounds_toArray, List.set_cons_zero, List.set_cons_succ])
    refine step_one 4 rfl (by kernel_rfl) (fun K hK => ?_)
    clear hHeld
    go_simp
    refine (compare_any 16 16 16 16 _ _ _ _ a.ip b.ip _ (AddrM.rd (HM.out.blk 1 rfl) HOA.out) (AddrM.rd (HM.out.blk 0 rfl) HOB.out)).mono ?_
    rintro e wy ⟨rfl, rfl⟩
    go_wp2_with fail
    refine hK.out _ _ (HM.out) (fun hHeld => ?_)
    clear hK K
    (try simp only [Act.put, List.setIfInBounds_toArray, List.set_cons_zero, List.set_cons_succ])
    refine take_first (v := ?_) 5 rfl (by kernel_rfl) (by kernel_rfl) (by kernel_rfl) (fun _ _ _ h => h) (Or.inl ⟨by rfl, ?_⟩) (by assumption) ?_
    rotate_left
    · (intro w hSw; (try dsimp only at hSw); go_simp; try with_reducible rfl)
    (try simp only [Act.put, List.setIfInBounds_toArray, List.set_cons_zero, List.set_cons_succ])
    refine take_first (v := ?_) 6 rfl (by kernel_rfl) (by kernel_rfl) (by kernel_rfl) (fun _ _ _ h => h) (Or.inl ⟨by rfl, ?_⟩) (by assumption) ?_
    rotate_left
    · (intro w hSw; (try dsimp only at hSw); go_simp; try with_reducible rfl)
    (try simp only [Act.put, List.setIfInBounds_toArray, List.set_cons_zero, List.set_cons_succ])
    refine wpAnyH_done (by kernel_rfl) ?_ _
    have HB := Lib.hid HM.out.bel
    clear HM hHeld
    go_wp2
    go_ret
    exact ⟨by have h := HE.out; simp at h ⊢; exact h, HB.out⟩
  · have HR := Lib.hid (show lessM a b = b.six by rw [lessM, if_neg h6]; revert h6; cases a.six <;> cases b.six <;> simp)
    clear hcl
    generalize a.six = s1 at f1 h6
    generalize b.six = s2 at f2 h6 HR
    have hc : (s1 = true ∧ s2 = false) ∨ (s1 = false ∧ s2 = true) := by revert h6; cases s1 <;> cases s2 <;> simp
    clear h6
    rcases hc with ⟨rfl, rfl⟩ | ⟨rfl, rfl⟩
    · go_wp2
      go_ret
      exact ⟨by first | rfl | (rw [HR.out]; rfl), HM.out.bel⟩
    · go_wp2
      go_ret
      exact ⟨by first | rfl | (rw [HR.out]; rfl), HM.out.bel⟩
end Go.Proofs.Ytnblofbbbkjhpaa
