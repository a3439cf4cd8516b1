/-
  Plain mathematics of keys in base64, with no program in sight: what a text stands for, and that text and key give each other back. No statement is proved here.
-/
import Derived.Test.YtdnmbabofkiiiaaNum
import Derived.Lib.Bytealg
namespace Go.Proofs.Ytdnmbabofkiiiaa

/-- the value of a hexadecimal digit; 16 if it is none -/
def hexVal (c : UInt8) : Nat := if 48 ≤ c.toNat ∧ c.toNat ≤ 57 then c.toNat - 48 else if 97 ≤ c.toNat ∧ c.toNat ≤ 102 then c.toNat - 87 else if 65 ≤ c.toNat ∧ c.toNat ≤ 70 then c.toNat - 55 else 16
def hexOk (c : UInt8) : Bool := decide (hexVal c < 16)
def hexV (c : UInt8) : Nat := if hexVal c < 16 then hexVal c else 0
theorem hexVal_D (d : Nat) (h : d < 16) : hexVal (hexD d) = d := by
  have : ∀ d : Fin 16, hexVal (hexD d.val) = d.val := by decide
  exact this ⟨d, h⟩
theorem hexV_lt (c : UInt8) : hexV c < 16 := by unfold hexV; split <;> omega
def pairB (s : List UInt8) (i : Nat) : UInt8 := UInt8.ofNat (hexV (s.getD (2 * i) 0) * 16 + hexV (s.getD (2 * i + 1) 0))
def pairs (s : List UInt8) (n : Nat) : List UInt8 := (List.range n).map (pairB s)
theorem pairs_length (s : List UInt8) (n : Nat) : (pairs s n).length = n := by simp [pairs]
theorem pairs_succ (s : List UInt8) (n : Nat) : pairs s (n + 1) = pairs s n ++ [pairB s n] := by simp [pairs, List.range_succ]
def parseH (s : List UInt8) : Option (List UInt8) := if s.length % 2 = 0 ∧ s.all hexOk = true then some (pairs s (s.length / 2)) else none
/-- a row of n bytes whose first j are read, the others 0 -/
def pairRow (s : List UInt8) (n j : Nat) : List UInt8 := pairs s j ++ List.replicate (n - j) 0
theorem pairRow_zero (s : List UInt8) (n : Nat) : pairRow s n 0 = List.replicate n 0 := by simp [pairRow, pairs]
theorem pairRow_end (s : List UInt8) (n : Nat) : pairRow s n n = pairs s n := by simp [pairRow]
theorem pairRow_set (s : List UInt8) (n j : Nat) (h : j < n) : (pairRow s n j).set j (pairB s j) = pairRow s n (j + 1) := by
  unfold pairRow
  rw [List.set_append_right _ _ (by rw [pairs_length]; exact Nat.le_refl _), pairs_length, Nat.sub_self, pairs_succ, show n - j = (n - (j + 1)) + 1 from by omega, List.replicate_succ, List.set_cons_zero, List.append_assoc]
  rfl
theorem hexL_getD : ∀ (l : List UInt8) (i : Nat) (h : i < l.length), (hexL l).getD (2 * i) 0 = hexD (l[i].toNat / 16) ∧ (hexL l).getD (2 * i + 1) 0 = hexD (l[i].toNat % 16)
  | [], i, h => by simp at h
  | b :: l, 0, _ => ⟨rfl, rfl⟩
  | b :: l, i + 1, h => by
    have := hexL_getD l i (by simpa using h)
    simpa [hexL, Nat.mul_add] using this
theorem hexOk_D (d : Nat) (h : d < 16) : hexOk (hexD d) = true := by simp [hexOk, hexVal_D d h, h]
theorem hexL_ok : ∀ l : List UInt8, (hexL l).all hexOk = true
  | [] => rfl
  | b :: l => by
    have := b.toNat_lt
    simp only [hexL, List.all_cons, hexL_ok l, hexOk_D _ (by omega : b.toNat / 16 < 16), hexOk_D _ (by omega : b.toNat % 16 < 16), Bool.and_self]
/-- the bytes are read back from their text -/
theorem parse_hex (l : List UInt8) : parseH (hexL l) = some l := by
  unfold parseH
  rw [hexL_length, if_pos ⟨by omega, hexL_ok l⟩]
  congr 1
  refine List.ext_getElem (by rw [pairs_length]; omega) fun i h1 h2 => ?_
  simp only [pairs, List.getElem_map, List.getElem_range, pairB]
  obtain ⟨e1, e2⟩ := hexL_getD l i h2
  have hb := l[i].toNat_lt
  rw [e1, e2]
  have q1 : hexV (hexD (l[i].toNat / 16)) = l[i].toNat / 16 := by
    unfold hexV; rw [hexVal_D _ (by omega), if_pos (by omega)]
  have q2 : hexV (hexD (l[i].toNat % 16)) = l[i].toNat % 16 := by
    unfold hexV; rw [hexVal_D _ (by omega), if_pos (by omega)]
  rw [q1, q2]
  apply UInt8.toNat_inj.1
  rw [UInt8.toNat_ofNat', Nat.mod_eq_of_lt (by omega)]
  omega

/-- the value of a character; -1 if it is none of base64 -/
def b64V (c : UInt8) : Int := Lib.indexByte b64T c
theorem b64V_D (d : Nat) (h : d < 64) : b64V (b64D d) = (d : Int) := by
  have : ∀ d : Fin 64, b64V (b64D d.val) = (d.val : Int) := by decide +kernel
  exact this ⟨d, h⟩
theorem b64V_or (c : UInt8) : b64V c = -1 ∨ (0 ≤ b64V c ∧ b64V c < 64 ∧ b64D (b64V c).toNat = c) := by
  have : ∀ n : Fin 256, b64V (UInt8.ofNat n.val) = -1 ∨ (0 ≤ b64V (UInt8.ofNat n.val) ∧ b64V (UInt8.ofNat n.val) < 64 ∧ b64D (b64V (UInt8.ofNat n.val)).toNat = UInt8.ofNat n.val) := by decide +kernel
  have h := this ⟨c.toNat, c.toNat_lt⟩
  simpa using h
def valid (c : UInt8) : Bool := decide (0 ≤ b64V c)
def grpN (l : List UInt8) : Nat := l.foldl (fun n c => n * 64 + (b64V c).toNat) 0
def grpOk (l : List UInt8) : Bool := l.all valid
theorem grpN_concat (l : List UInt8) (c : UInt8) : grpN (l ++ [c]) = grpN l * 64 + (b64V c).toNat := by simp [grpN]
theorem b64V_lt (c : UInt8) : (b64V c).toNat < 64 := by
  rcases b64V_or c with h | ⟨_, h, _⟩ <;> omega
theorem grp_fold_lt : ∀ (l : List UInt8) (n : Nat), l.foldl (fun n c => n * 64 + (b64V c).toNat) n < (n + 1) * 64 ^ l.length
  | [], n => by simp
  | c :: l, n => by
    have h := grp_fold_lt l (n * 64 + (b64V c).toNat)
    have hv := b64V_lt c
    have h2 : (n * 64 + (b64V c).toNat + 1) * 64 ^ l.length ≤ ((n + 1) * 64) * 64 ^ l.length := Nat.mul_le_mul_right _ (by omega)
    rw [List.foldl_cons, List.length_cons, Nat.pow_succ, Nat.mul_comm (64 ^ l.length) 64, ← Nat.mul_assoc]
    exact Nat.lt_of_lt_of_le h h2
theorem grpN_lt (l : List UInt8) : grpN l < 64 ^ l.length := by
  have := grp_fold_lt l 0
  simpa [grpN] using this
def bytes3 (n : Nat) : List UInt8 := (littleL n 3).reverse
theorem bytes3_length (n : Nat) : (bytes3 n).length = 3 := by simp [bytes3, littleL_length]
theorem numB_bytes3 (n : Nat) (h : n < 16777216) : numB (bytes3 n) = n := by
  unfold numB bytes3
  rw [List.reverse_reverse, numL_little]
  exact Nat.mod_eq_of_lt h
theorem byteOf_zero_cons (b : UInt8) (n : Nat) : byteOf (b.toNat + 256 * n) 0 = b := by
  apply UInt8.toNat_inj.1
  rw [byteOf_toNat]
  have := b.toNat_lt
  omega
theorem byteOf_succ_cons (b : UInt8) (n i : Nat) : byteOf (b.toNat + 256 * n) (i + 1) = byteOf n i := by
  apply UInt8.toNat_inj.1
  rw [byteOf_toNat, byteOf_toNat, show 8 * (i + 1) = 8 + 8 * i from by omega, Nat.pow_add, ← Nat.div_div_eq_div_mul]
  have := b.toNat_lt
  congr 2
  omega
theorem littleL_numL : ∀ l : List UInt8, littleL (numL l) l.length = l
  | [] => rfl
  | b :: l => by
    have ih := littleL_numL l
    unfold littleL at ih ⊢
    rw [List.length_cons, List.range_succ_eq_map, List.map_cons, List.map_map, numL, byteOf_zero_cons]
    congr 1
    have : (byteOf (b.toNat + 256 * numL l) ∘ Nat.succ) = byteOf (numL l) := funext fun i => byteOf_succ_cons b (numL l) i
    rw [this]
    exact ih
theorem bytes3_numB (l : List UInt8) (h : l.length = 3) : bytes3 (numB l) = l := by
  unfold bytes3 numB
  have := littleL_numL l.reverse
  rw [List.length_reverse, h] at this
  rw [this, List.reverse_reverse]
/-- lists of three, one behind the other -/
def flat3 (f : Nat → List UInt8) (m : Nat) : List UInt8 := ((List.range m).map f).flatten
theorem flat3_succ (f : Nat → List UInt8) (m : Nat) : flat3 f (m + 1) = flat3 f m ++ f m := by simp [flat3, List.range_succ]
theorem flat3_length (f : Nat → List UInt8) (h : ∀ i, (f i).length = 3) : ∀ m, (flat3 f m).length = 3 * m
  | 0 => rfl
  | m + 1 => by rw [flat3_succ, List.length_append, flat3_length f h m, h]; omega
theorem flat3_at (f : Nat → List UInt8) (h : ∀ i, (f i).length = 3) (m g : Nat) (hg : g < m) : ((flat3 f m).drop (g * 3)).take 3 = f g := by
  have : ∃ r, flat3 f m = flat3 f g ++ (f g ++ r) := by
    induction m with
    | zero => omega
    | succ m ih =>
      rw [flat3_succ]
      by_cases e : g = m
      · subst e; exact ⟨[], by simp⟩
      · obtain ⟨r, hr⟩ := ih (by omega)
        exact ⟨r ++ f m, by rw [hr]; simp⟩
  obtain ⟨r, hr⟩ := this
  rw [hr, List.drop_append_of_le_length (by rw [flat3_length f h]; omega), List.drop_of_length_le (by rw [flat3_length f h]; omega), List.nil_append, List.take_append_of_le_length (by rw [h]; exact Nat.le_refl _), List.take_of_length_le (by rw [h]; exact Nat.le_refl _)]
theorem flat3_congr (f f' : Nat → List UInt8) (m : Nat) (h : ∀ i, i < m → f i = f' i) : flat3 f m = flat3 f' m := by
  unfold flat3
  congr 1
  refine List.map_congr_left fun i hi => h i (List.mem_range.1 hi)
theorem flat3_chunks (K : List UInt8) : ∀ m, flat3 (fun g => (K.drop (g * 3)).take 3) m = K.take (m * 3)
  | 0 => by simp [flat3]
  | m + 1 => by
    rw [flat3_succ, flat3_chunks K m, show (m + 1) * 3 = m * 3 + 3 from by omega, List.take_add]

def grp (D : List UInt8) (g : Nat) : List UInt8 := (D.drop (g * 4)).take 4
def fill (D : List UInt8) (m : Nat) : List UInt8 := flat3 (fun i => bytes3 (grpN (grp D i))) m
theorem fill_length (D : List UInt8) (m : Nat) : (fill D m).length = 3 * m := flat3_length _ (fun _ => bytes3_length _) m
def allOk (D : List UInt8) (m : Nat) : Bool := (List.range m).all fun i => grpOk (grp D i)
theorem allOk_succ (D : List UInt8) (m : Nat) : allOk D (m + 1) = (allOk D m && grpOk (grp D m)) := by simp [allOk, List.range_succ]
/-- the 43 characters and the one that stands for the padding -/
def digitsOf (t : List UInt8) : List UInt8 := t.take 43 ++ [65]
def parseK (t : List UInt8) : Option (List UInt8) :=
  if t.length = 44 ∧ t.getD 43 0 = 61 then
    if allOk (digitsOf t) 11 = true ∧ (fill (digitsOf t) 11).getD 32 0 = 0 then some ((fill (digitsOf t) 11).take 32) else none
  else none

theorem grp_get (D : List UInt8) (g r : Nat) (hr : r < 4) (h : g * 4 + r < D.length) : ∃ h', (grp D g)[r]'h' = D[g * 4 + r] := by
  refine ⟨by simp [grp]; omega, ?_⟩
  simp [grp]
theorem grp_four (D : List UInt8) (g : Nat) (h : g * 4 + 4 ≤ D.length) : grp D g = [D[g * 4], D[g * 4 + 1], D[g * 4 + 2], D[g * 4 + 3]] := by
  have hl : (grp D g).length = 4 := by simp [grp]; omega
  refine List.ext_getElem (by rw [hl]; rfl) fun r h1 h2 => ?_
  have h4 : r < 4 := by omega
  obtain ⟨h', e⟩ := grp_get D g r h4 (by omega)
  rw [e]
  obtain rfl | rfl | rfl | rfl : r = 0 ∨ r = 1 ∨ r = 2 ∨ r = 3 := by omega
  all_goals rfl
theorem grpN_four (a b c d : UInt8) : grpN [a, b, c, d] = (((b64V a).toNat * 64 + (b64V b).toNat) * 64 + (b64V c).toNat) * 64 + (b64V d).toNat := by simp [grpN]
theorem six (a b c d : Nat) (hb : b < 64) (hc : c < 64) (hd : d < 64) (ha : a < 64) :
    (((a * 64 + b) * 64 + c) * 64 + d) / 2 ^ (6 * (3 - 0)) % 64 = a ∧ (((a * 64 + b) * 64 + c) * 64 + d) / 2 ^ (6 * (3 - 1)) % 64 = b ∧ (((a * 64 + b) * 64 + c) * 64 + d) / 2 ^ (6 * (3 - 2)) % 64 = c ∧ (((a * 64 + b) * 64 + c) * 64 + d) / 2 ^ (6 * (3 - 3)) % 64 = d := by
  simp only [show 6 * (3 - 0) = 18 from rfl, show 6 * (3 - 1) = 12 from rfl, show 6 * (3 - 2) = 6 from rfl, show 6 * (3 - 3) = 0 from rfl]
  omega

theorem valid_iff (c : UInt8) : valid c = true ↔ 0 ≤ b64V c := by simp [valid]
theorem valid_back (c : UInt8) (h : valid c = true) : b64D (b64V c).toNat = c := by
  rw [valid_iff] at h
  rcases b64V_or c with e | ⟨_, _, e⟩
  · omega
  · exact e
theorem digits_length (t : List UInt8) (h : t.length = 44) : (digitsOf t).length = 44 := by simp [digitsOf, h]
/-- six bits of what a text stands for: the value of the character there -/
theorem sext_fill (D : List UInt8) (hD : D.length = 44) (i : Nat) (hi : i < 44) : sext (fill D 11) i = (b64V (D[i]'(by omega))).toNat := by
  unfold sext
  rw [fill, flat3_at _ (fun _ => bytes3_length _) 11 (i / 4) (by omega), grp_four D (i / 4) (by omega), grpN_four]
  have v0 := b64V_lt (D[i / 4 * 4]'(by omega))
  have v1 := b64V_lt (D[i / 4 * 4 + 1]'(by omega))
  have v2 := b64V_lt (D[i / 4 * 4 + 2]'(by omega))
  have v3 := b64V_lt (D[i / 4 * 4 + 3]'(by omega))
  rw [numB_bytes3 _ (by omega)]
  obtain ⟨e0, e1, e2, e3⟩ := six _ _ _ _ v1 v2 v3 v0
  have hr : i % 4 < 4 := Nat.mod_lt _ (by omega)
  have key : ∀ r, i % 4 = r → i = i / 4 * 4 + r := fun r h => by omega
  rcases (by omega : i % 4 = 0 ∨ i % 4 = 1 ∨ i % 4 = 2 ∨ i % 4 = 3) with h | h | h | h
  · rw [h, e0]; congr 2; simp only [show i / 4 * 4 = i from by omega]
  · rw [h, e1]; congr 2; simp only [show i / 4 * 4 + 1 = i from by omega]
  · rw [h, e2]; congr 2; simp only [show i / 4 * 4 + 2 = i from by omega]
  · rw [h, e3]; congr 2; simp only [show i / 4 * 4 + 3 = i from by omega]
theorem allOk_get (D : List UInt8) (hD : D.length = 44) (h : allOk D 11 = true) (i : Nat) (hi : i < 44) : valid (D[i]'(by omega)) = true := by
  unfold allOk grpOk at h
  rw [List.all_eq_true] at h
  have h1 := h (i / 4) (List.mem_range.2 (by omega))
  rw [List.all_eq_true] at h1
  obtain ⟨h', e⟩ := grp_get D (i / 4) (i % 4) (by omega) (by omega)
  have := h1 _ (List.getElem_mem h')
  rw [e] at this
  simpa only [show i / 4 * 4 + i % 4 = i from by omega] using this
theorem take_getD (F : List UInt8) (h : F.length = 33) (h0 : F.getD 32 0 = 0) : F.take 32 ++ [0] = F := by
  have := List.take_append_getElem (l := F) (i := 32) (by omega)
  rw [getD_lt (by omega)] at h0
  rw [h0] at this
  rw [this, List.take_of_length_le (by omega)]
/-- what is accepted is the text of what it stands for -/
theorem text_parse (t q : List UInt8) (h : parseK t = some q) : q.length = 32 ∧ textL q = t := by
  unfold parseK at h
  split at h
  · rename_i h1
    obtain ⟨hl, h61⟩ := h1
    split at h
    · rename_i h2
      obtain ⟨hok, h0⟩ := h2
      have hD := digits_length t hl
      have hF : (fill (digitsOf t) 11).length = 33 := fill_length _ _
      injection h with h
      subst h
      refine ⟨by simp [hF], ?_⟩
      refine List.ext_getElem (by rw [textL_length, hl]) fun i h1 h2 => ?_
      have hi : i < 44 := by omega
      by_cases h43 : i < 43
      · have hDi : (digitsOf t)[i]'(by omega) = t[i] := by
          simp only [digitsOf]
          rw [List.getElem_append_left (by simp; omega)]
          simp
        have hv := allOk_get _ hD hok i hi
        have hb := valid_back _ hv
        simp only [textL]
        rw [List.getElem_append_left (by simp [chrs_length]; omega)]
        simp only [chrs, List.getElem_map, List.getElem_range]
        rw [take_getD _ hF h0, sext_fill _ hD i hi, hb, hDi]
      · obtain rfl : i = 43 := by omega
        rw [getD_lt (by omega)] at h61
        simp only [textL]
        rw [List.getElem_append_right (by rw [chrs_length]; exact Nat.le_refl _), h61]
        simp [chrs_length]
    · cases h
  · cases h
theorem sext_lt (K : List UInt8) (i : Nat) : sext K i < 64 := Nat.mod_lt _ (by omega)
/-- the text of a key is accepted, and stands for it -/
theorem parse_text (k : List UInt8) (hk : k.length = 32) : parseK (textL k) = some k := by
  have hK : (k ++ [0]).length = 33 := by simp [hk]
  have hl := textL_length k
  have hD : digitsOf (textL k) = chrs k 44 := by
    have h0 : sext (k ++ [0]) 43 = 0 := by
      unfold sext
      have : ((k ++ [0]).drop (43 / 4 * 3)).take 3 = [k[30], k[31], 0] := by
        refine List.ext_getElem (by simp [hk]) fun r h1 h2 => ?_
        have h3 : r < 3 := by simpa using h2
        obtain rfl | rfl | rfl : r = 0 ∨ r = 1 ∨ r = 2 := by omega
        all_goals simp [hk]
      rw [this]
      simp only [numB, numL, List.reverse_cons, List.reverse_nil, List.nil_append, List.cons_append]
      simp only [show 6 * (3 - 43 % 4) = 0 from rfl]
      have : (0 : UInt8).toNat = 0 := rfl
      omega
    unfold digitsOf
    rw [textL, List.take_append_of_le_length (by rw [chrs_length]; exact Nat.le_refl _), List.take_of_length_le (by rw [chrs_length]; exact Nat.le_refl _)]
    have := chrs_succ k 43
    rw [h0] at this
    exact this.symm
  have hget : ∀ i (hi : i < 44), (chrs k 44)[i]'(by rw [chrs_length]; exact hi) = b64D (sext (k ++ [0]) i) := by
    intro i hi
    simp [chrs]
  have hval : ∀ i (hi : i < 44), b64V ((chrs k 44)[i]'(by rw [chrs_length]; exact hi)) = (sext (k ++ [0]) i : Int) := by
    intro i hi
    rw [hget i hi]
    exact b64V_D _ (sext_lt _ _)
  have hok : allOk (chrs k 44) 11 = true := by
    unfold allOk grpOk
    rw [List.all_eq_true]
    intro g hg
    rw [List.all_eq_true]
    intro c hc
    have hc' : c ∈ chrs k 44 := List.mem_of_mem_drop (List.mem_of_mem_take hc)
    obtain ⟨i, hi, rfl⟩ := List.getElem_of_mem hc'
    rw [valid_iff, hval i (by simpa [chrs_length] using hi)]
    omega
  have hfill : fill (chrs k 44) 11 = k ++ [0] := by
    unfold fill
    rw [flat3_congr _ (fun g => ((k ++ [0]).drop (g * 3)).take 3) 11, flat3_chunks, List.take_of_length_le (by omega)]
    intro g hg
    have h3 : (((k ++ [0]).drop (g * 3)).take 3).length = 3 := by simp [hk]; omega
    have hM := numL_lt (((k ++ [0]).drop (g * 3)).take 3).reverse
    rw [List.length_reverse, h3] at hM
    rw [grp_four _ g (by rw [chrs_length]; omega), grpN_four, hval _ (by omega), hval _ (by omega), hval _ (by omega), hval _ (by omega)]
    unfold sext
    rw [show g * 4 / 4 = g from by omega, show (g * 4 + 1) / 4 = g from by omega, show (g * 4 + 2) / 4 = g from by omega, show (g * 4 + 3) / 4 = g from by omega, show g * 4 % 4 = 0 from by omega, show (g * 4 + 1) % 4 = 1 from by omega, show (g * 4 + 2) % 4 = 2 from by omega, show (g * 4 + 3) % 4 = 3 from by omega]
    have hr := bytes3_numB _ h3
    generalize hm : numB (((k ++ [0]).drop (g * 3)).take 3) = M at hr ⊢
    have hM' : M < 16777216 := by rw [← hm]; exact hM
    rw [← hr]
    congr 1
    simp only [Int.toNat_natCast, show 6 * (3 - 0) = 18 from rfl, show 6 * (3 - 1) = 12 from rfl, show 6 * (3 - 2) = 6 from rfl, show 6 * (3 - 3) = 0 from rfl]
    omega
  unfold parseK
  rw [hD, hfill, if_pos ⟨hl, by rw [getD_lt (by omega)]; simp [textL, chrs_length]⟩, if_pos ⟨hok, by rw [getD_lt (by omega)]; simp [hk]⟩]
  congr 1
  rw [List.take_append_of_le_length (by omega), List.take_of_length_le (by omega)]
end Go.Proofs.Ytdnmbabofkiiiaa
