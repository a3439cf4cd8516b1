/-
  2^255 - 19 is prime, by a chain of certificates; powers modulo a prime. No statement is proved here.
-/
namespace Go.Proofs.Ytgdgecehmnokdaa.Cu
/-- a to the power e modulo n -/
def pm (n : Nat) : Nat → Nat → Nat → Nat
  | 0, _, _ => 1 % n
  | f+1, a, e => bif e == 0 then 1 % n else bif e % 2 == 1 then a * pm n f (a*a % n) (e/2) % n else pm n f (a*a % n) (e/2)
theorem pm_eq (n : Nat) : ∀ f a e, e < 2^f → pm n f a e = a^e % n
  | 0, a, e, h => by
    have : e = 0 := by simpa using h
    subst this; simp [pm]
  | f+1, a, e, h => by
    rw [Nat.pow_succ] at h
    have ih := pm_eq n f (a*a % n) (e/2) (by omega)
    have hp : (a*a % n)^(e/2) % n = (a*a)^(e/2) % n := (Nat.pow_mod (a*a) (e/2) n).symm
    rw [hp] at ih
    have hq : (a*a)^(e/2) = a^(2*(e/2)) := by rw [Nat.pow_mul, Nat.pow_two]
    rw [hq] at ih
    simp only [pm, ih, cond_eq_ite, beq_iff_eq]
    by_cases h0 : e = 0
    · simp [h0]
    · rw [if_neg h0]
      by_cases h1 : e % 2 = 1
      · rw [if_pos h1, Nat.mul_mod, Nat.mod_mod, ← Nat.mul_mod]
        have : e = 2*(e/2) + 1 := by omega
        conv => rhs; rw [this, Nat.pow_succ, Nat.mul_comm]
      · rw [if_neg h1]
        have : 2*(e/2) = e := by omega
        rw [this]
def IsPrime (p : Nat) : Prop := 2 ≤ p ∧ ∀ m, m ∣ p → m = 1 ∨ m = p
theorem IsPrime.dvd_or {p a b : Nat} (hp : IsPrime p) (h : p ∣ a * b) : p ∣ a ∨ p ∣ b := by
  rcases hp.2 (Nat.gcd p a) (Nat.gcd_dvd_left p a) with h1 | h1
  · exact .inr (Nat.Coprime.dvd_of_dvd_mul_left (k := p) (m := a) h1 h)
  · exact .inl (h1 ▸ Nat.gcd_dvd_right p a)
theorem exists_prime : ∀ n : Nat, 2 ≤ n → ∃ p, IsPrime p ∧ p ∣ n := by
  intro n
  induction n using Nat.strongRecOn with
  | _ n ih =>
    intro h2
    by_cases hp : IsPrime n
    · exact ⟨n, hp, Nat.dvd_refl n⟩
    · have : ∃ m, m ∣ n ∧ m ≠ 1 ∧ m ≠ n := Classical.byContradiction fun hne => hp ⟨h2, fun m hm => by
        by_cases h1 : m = 1
        · exact .inl h1
        · by_cases h3 : m = n
          · exact .inr h3
          · exact absurd ⟨m, hm, h1, h3⟩ hne⟩
      obtain ⟨m, hm, h1, h3⟩ := this
      have hle := Nat.le_of_dvd (by omega) hm
      have hpos : 0 < m := Nat.pos_of_dvd_of_pos hm (by omega)
      obtain ⟨p, hpp, hpd⟩ := ih m (by omega) (by omega)
      exact ⟨p, hpp, Nat.dvd_trans hpd hm⟩
/-- a number all of whose prime divisors are great is prime itself -/
theorem prime_of_great {n F : Nat} (h2 : 2 ≤ n) (hF : n < (F+1)*(F+1)) (h : ∀ l, IsPrime l → l ∣ n → F < l) : IsPrime n := by
  refine ⟨h2, fun m hm => ?_⟩
  by_cases h1 : m = 1
  · exact .inl h1
  · right
    obtain ⟨k, hk⟩ := hm
    by_cases k1 : k = 1
    · rw [hk, k1, Nat.mul_one]
    · exfalso
      have m0 : m ≠ 0 := fun e => by rw [e] at hk; omega
      have k0 : k ≠ 0 := fun e => by rw [e] at hk; omega
      obtain ⟨l, hl, hld⟩ := exists_prime m (by omega)
      obtain ⟨q, hq, hqd⟩ := exists_prime k (by omega)
      have a1 := h l hl (Nat.dvd_trans hld ⟨k, hk⟩)
      have a2 := h q hq (Nat.dvd_trans hqd ⟨m, by rw [hk, Nat.mul_comm]⟩)
      have b1 := Nat.le_of_dvd (by omega) hld
      have b2 := Nat.le_of_dvd (by omega) hqd
      have : (F+1)*(F+1) ≤ m*k := Nat.mul_le_mul (by omega) (by omega)
      omega
theorem dvd_sub_of_mod {p a b : Nat} (h : b % p = a % p) : p ∣ b - a := Nat.dvd_of_mod_eq_zero (Nat.sub_mod_eq_zero_of_mod_eq h)
theorem mod_of_dvd_sub {p b : Nat} (h2 : 2 ≤ p) (hb : 1 ≤ b) (h : p ∣ b - 1) : b % p = 1 := by
  obtain ⟨k, hk⟩ := h
  have : b = p*k + 1 := by omega
  rw [this, Nat.mul_add_mod]
  exact Nat.mod_eq_of_lt (by omega)
def prodL (l : List Nat) : Nat := l.foldr (· * ·) 1
theorem prodL_perm {l l' : List Nat} (h : l.Perm l') : prodL l = prodL l' := by
  induction h with
  | nil => rfl
  | cons x _ ih => show x * prodL _ = x * prodL _; rw [ih]
  | swap x y l => show y * (x * prodL l) = x * (y * prodL l); rw [Nat.mul_left_comm]
  | trans _ _ h1 h2 => exact h1.trans h2
theorem perm_of_subset : ∀ (M L : List Nat), M.Nodup → (∀ x ∈ M, x ∈ L) → L.length ≤ M.length → M.Perm L
  | [], L, _, _, h => by
    have : L = [] := List.eq_nil_of_length_eq_zero (by simpa using h)
    rw [this]
  | m :: M, L, hn, hs, h => by
    have hm : m ∈ L := hs m (by simp)
    have p1 := List.perm_cons_erase hm
    have hn' := List.nodup_cons.1 hn
    have ih := perm_of_subset M (L.erase m) hn'.2 (fun x hx => by
      have hne : x ≠ m := fun e => hn'.1 (e ▸ hx)
      exact (List.mem_erase_of_ne hne).2 (hs x (by simp [hx]))) (by
      rw [List.length_erase_of_mem hm]
      simp only [List.length_cons] at h
      omega)
    exact (ih.cons m).trans p1.symm
theorem prodL_mod (a p : Nat) : ∀ l : List Nat, prodL (l.map fun i => a*i % p) % p = a^l.length * prodL l % p
  | [] => by simp [prodL]
  | i :: l => by
    show (a*i % p) * prodL (l.map fun i => a*i % p) % p = a^(l.length+1) * (i * prodL l) % p
    rw [Nat.mul_mod, Nat.mod_mod, prodL_mod a p l, ← Nat.mul_mod]
    congr 1
    rw [Nat.pow_succ]
    rw [Nat.mul_comm (a^l.length) a, Nat.mul_assoc a i, Nat.mul_assoc a, Nat.mul_left_comm (a^l.length) i]
theorem prodL_not {p : Nat} (hp : IsPrime p) : ∀ l : List Nat, (∀ i ∈ l, ¬ p ∣ i) → ¬ p ∣ prodL l
  | [], _ => fun h => by
    have := Nat.le_of_dvd (by decide) (show p ∣ 1 from h)
    have := hp.1
    omega
  | i :: l, h => fun hd => by
    rcases hp.dvd_or (show p ∣ i * prodL l from hd) with h1 | h1
    · exact h i (by simp) h1
    · exact prodL_not hp l (fun j hj => h j (by simp [hj])) h1
theorem fermat {p a : Nat} (hp : IsPrime p) (ha : ¬ p ∣ a) : a^(p-1) % p = 1 := by
  have h2 := hp.1
  let L := List.range' 1 (p-1)
  have hL : ∀ i ∈ L, 1 ≤ i ∧ i < p := by
    intro i hi
    have := List.mem_range'_1.1 hi
    omega
  have hnd : ∀ i ∈ L, ¬ p ∣ i := fun i hi hd => by
    have := hL i hi
    have := Nat.le_of_dvd (by omega) hd
    omega
  have hperm : (L.map fun i => a*i % p).Perm L := by
    refine perm_of_subset _ _ ?_ ?_ (by simp)
    · refine List.pairwise_map.2 ?_
      have hn : L.Nodup := List.nodup_range'
      refine List.Pairwise.imp_of_mem ?_ hn
      intro i j hi hj hne he
      apply hne
      have hi' := hL i hi
      have hj' := hL j hj
      rcases Nat.lt_or_ge i j with hlt | hge
      · exfalso
        have hd : p ∣ a * (j - i) := by
          rw [Nat.mul_sub]
          exact dvd_sub_of_mod he.symm
        rcases hp.dvd_or hd with h | h
        · exact ha h
        · have := Nat.le_of_dvd (by omega) h
          omega
      · rcases Nat.lt_or_ge j i with hlt | hge'
        · exfalso
          have hd : p ∣ a * (i - j) := by
            rw [Nat.mul_sub]
            exact dvd_sub_of_mod he
          rcases hp.dvd_or hd with h | h
          · exact ha h
          · have := Nat.le_of_dvd (by omega) h
            omega
        · omega
    · intro x hx
      obtain ⟨i, hi, rfl⟩ := List.mem_map.1 hx
      refine List.mem_range'_1.2 ⟨?_, ?_⟩
      · have hne : a*i % p ≠ 0 := fun e => by
          rcases hp.dvd_or (Nat.dvd_of_mod_eq_zero e) with h | h
          · exact ha h
          · exact hnd i hi h
        omega
      · have := Nat.mod_lt (a*i) (show 0 < p by omega)
        omega
  have e1 := prodL_mod a p L
  rw [prodL_perm hperm] at e1
  have hlen : L.length = p - 1 := by simp [L]
  rw [hlen] at e1
  have hQ := prodL_not hp L hnd
  generalize prodL L = Q at e1 hQ
  have hpos : 1 ≤ a^(p-1) := Nat.pow_pos (Nat.pos_of_ne_zero fun e => ha (e ▸ Nat.dvd_zero p))
  have hd : p ∣ Q * (a^(p-1) - 1) := by
    rw [Nat.mul_sub, Nat.mul_one, Nat.mul_comm]
    exact dvd_sub_of_mod e1.symm
  rcases hp.dvd_or hd with h | h
  · exact absurd h hQ
  · exact mod_of_dvd_sub h2 hpos h
/-- exponents with the power 1 -/
theorem pow_gcd {b l : Nat} : ∀ m k : Nat, b^m % l = 1 % l → b^k % l = 1 % l → b^(Nat.gcd m k) % l = 1 % l := by
  intro m k
  induction m, k using Nat.gcd.induction with
  | H0 k => intro _ h; rw [Nat.gcd_zero_left]; exact h
  | H1 m k hpos ih =>
    intro h1 h2
    rw [Nat.gcd_rec]
    refine ih ?_ h1
    have e : k = m*(k/m) + k % m := (Nat.div_add_mod k m).symm
    have e2 : b^k % l = b^(k % m) % l := by
      conv => lhs; rw [e, Nat.pow_add, Nat.pow_mul, Nat.mul_mod, Nat.pow_mod, h1, ← Nat.pow_mod, Nat.one_pow, ← Nat.mul_mod, Nat.one_mul]
    rw [← e2, h2]
theorem pock_dvd {n a q l : Nat} (hn : 2 ≤ n) (hq : IsPrime q) (hd : q ∣ n - 1) (h1 : a^(n-1) % n = 1) (h2 : Nat.gcd (a^((n-1)/q) % n + (n - 1)) n = 1) (hl : IsPrime l) (hln : l ∣ n) : q ∣ l - 1 := by
  refine Classical.byContradiction fun hno => ?_
  have hl2 := hl.1
  obtain ⟨b, hb⟩ : ∃ b, a^((n-1)/q) = b := ⟨_, rfl⟩
  have hbq : b^q % l = 1 := by
    rw [← hb, ← Nat.pow_mul, Nat.div_mul_cancel hd, ← Nat.mod_mod_of_dvd _ hln, h1]
    exact Nat.mod_eq_of_lt (by omega)
  have hbl : ¬ l ∣ b := fun h => by
    have : b^q % l = 0 := by
      obtain ⟨k, hk⟩ := h
      have hq1 : q = q - 1 + 1 := by have := hq.1; omega
      rw [hq1, Nat.pow_succ, hk, ← Nat.mul_assoc, Nat.mul_right_comm]
      exact Nat.mul_mod_left _ _
    omega
  have hf := fermat hl hbl
  have one : 1 % l = 1 := Nat.mod_eq_of_lt (by omega)
  have hg := pow_gcd (b := b) (l := l) q (l-1) (by rw [hbq, one]) (by rw [hf, one])
  have g1 : Nat.gcd q (l-1) = 1 := by
    rcases hq.2 _ (Nat.gcd_dvd_left q (l-1)) with h | h
    · exact h
    · exact absurd (h ▸ Nat.gcd_dvd_right q (l-1)) hno
  rw [g1, Nat.pow_one, one] at hg
  have hdiv : l ∣ b % n + (n - 1) := by
    apply Nat.dvd_of_mod_eq_zero
    obtain ⟨k, hk⟩ := hln
    have e1 : b % n % l = 1 := by rw [Nat.mod_mod_of_dvd _ ⟨k, hk⟩]; exact hg
    have e3 : b % n = l*(b % n / l) + 1 := by have := Nat.div_add_mod (b % n) l; omega
    have e2 : b % n + (n - 1) = l*(b % n / l) + l*k := by omega
    rw [e2, ← Nat.mul_add]
    exact Nat.mul_mod_right _ _
  have := Nat.dvd_gcd hdiv hln
  rw [hb, ← hb, hb] at h2
  rw [h2] at this
  have := Nat.le_of_dvd (by omega) this
  omega
/-- one prime factor of n - 1 that is great enough -/
theorem pock_one {n a q : Nat} (f : Nat) (hn : 2 ≤ n) (hf : n < 2^f) (hq : IsPrime q) (hc : (decide (q ∣ n - 1) && pm n f a (n-1) == 1 && Nat.gcd (pm n f a ((n-1)/q) + (n-1)) n == 1 && decide (n < (q+1)*(q+1))) = true) : IsPrime n := by
  simp only [Bool.and_eq_true, decide_eq_true_eq, beq_iff_eq] at hc
  obtain ⟨⟨⟨c1, c2⟩, c3⟩, c4⟩ := hc
  rw [pm_eq n f a _ (by omega)] at c2
  rw [pm_eq n f a _ (by have := Nat.div_le_self (n-1) q; omega)] at c3
  refine prime_of_great hn c4 fun l hl hln => ?_
  have h := pock_dvd hn hq c1 c2 c3 hl hln
  have := hl.1
  have := Nat.le_of_dvd (by omega) h
  omega
theorem pock_two {n a q r : Nat} (f : Nat) (hn : 2 ≤ n) (hf : n < 2^f) (hq : IsPrime q) (hr : IsPrime r) (hc : (decide (q ∣ n - 1) && decide (r ∣ n - 1) && pm n f a (n-1) == 1 && Nat.gcd (pm n f a ((n-1)/q) + (n-1)) n == 1 && Nat.gcd (pm n f a ((n-1)/r) + (n-1)) n == 1 && Nat.gcd q r == 1 && decide (n < (q*r+1)*(q*r+1))) = true) : IsPrime n := by
  simp only [Bool.and_eq_true, decide_eq_true_eq, beq_iff_eq] at hc
  obtain ⟨⟨⟨⟨⟨⟨c1, d1⟩, c2⟩, c3⟩, d3⟩, cg⟩, c4⟩ := hc
  rw [pm_eq n f a _ (by omega)] at c2
  rw [pm_eq n f a _ (by have := Nat.div_le_self (n-1) q; omega)] at c3
  rw [pm_eq n f a _ (by have := Nat.div_le_self (n-1) r; omega)] at d3
  refine prime_of_great hn c4 fun l hl hln => ?_
  have h := pock_dvd hn hq c1 c2 c3 hl hln
  have h' := pock_dvd hn hr d1 c2 d3 hl hln
  have := hl.1
  have := Nat.le_of_dvd (by omega) (Nat.Coprime.mul_dvd_of_dvd_of_dvd cg h h')
  omega
/-- no divisor from 2 to k -/
def noDiv (n : Nat) : Nat → Bool
  | 0 => true
  | k+1 => (Nat.blt k 1 || !(n % (k+1) == 0)) && noDiv n k
theorem noDiv_all {n : Nat} : ∀ k, noDiv n k = true → ∀ m, 2 ≤ m → m ≤ k → ¬ m ∣ n
  | 0, _, m, h1, h2 => by omega
  | k+1, h, m, h1, h2 => by
    simp only [noDiv, Bool.and_eq_true, Bool.or_eq_true, Bool.not_eq_true', beq_eq_false_iff_ne] at h
    rcases Nat.lt_or_ge m (k+1) with h3 | h3
    · exact noDiv_all k h.2 m h1 (by omega)
    · have : m = k+1 := by omega
      subst this
      intro hd
      rcases h.1 with h4 | h4
      · have := Nat.le_of_ble_eq_true h4
        omega
      · exact h4 (Nat.mod_eq_zero_of_dvd hd)
theorem prime_small {n : Nat} (k : Nat) (hc : (decide (2 ≤ n) && decide (n < (k+1)*(k+1)) && noDiv n k) = true) : IsPrime n := by
  simp only [Bool.and_eq_true, decide_eq_true_eq] at hc
  obtain ⟨⟨h2, hk⟩, hd⟩ := hc
  refine prime_of_great h2 hk fun l hl hln => ?_
  rcases Nat.lt_or_ge k l with h | h
  · exact h
  · exact absurd hln (noDiv_all k hd l hl.1 h)
theorem prime_8574133 : IsPrime 8574133 := prime_small 2930 (by decide +kernel)
theorem prime_127 : IsPrime 127 := prime_small 12 (by decide +kernel)
theorem prime_75707 : IsPrime 75707 := prime_small 280 (by decide +kernel)
theorem prime_430751 : IsPrime 430751 := prime_small 660 (by decide +kernel)
theorem prime_4153 : IsPrime 4153 := prime_small 66 (by decide +kernel)
theorem prime_r1 : IsPrime 1919519569386763 := pock_two (a := 2) (q := 8574133) (r := 127) 64 (by omega) (by omega) prime_8574133 prime_127 (by decide +kernel)
theorem prime_q3 : IsPrime 31757755568855353 := pock_two (a := 2) (q := 430751) (r := 4153) 64 (by omega) (by omega) prime_430751 prime_4153 (by decide +kernel)
theorem prime_q2 : IsPrime 75445702479781427272750846543864801 := pock_two (a := 2) (q := 1919519569386763) (r := 75707) 128 (by omega) (by omega) prime_r1 prime_75707 (by decide +kernel)
theorem prime_q1 : IsPrime 74058212732561358302231226437062788676166966415465897661863160754340907 := pock_two (a := 2) (q := 75445702479781427272750846543864801) (r := 31757755568855353) 256 (by omega) (by omega) prime_q2 prime_q3 (by decide +kernel)
/-- the modulus of the field -/
theorem prime_p : IsPrime 57896044618658097711785492504343953926634992332820282019728792003956564819949 := pock_one (a := 2) (q := 74058212732561358302231226437062788676166966415465897661863160754340907) 256 (by omega) (by omega) prime_q1 (by decide +kernel)
end Go.Proofs.Ytgdgecehmnokdaa.Cu
