/-
  THE SHORT SUM IN LEAN ALONE: the CRC as numbers; what differs within 32 bits; the xor of three.
-/
import Derived.WalkKit
namespace Go.Proofs.YtmglopfjjbnfiaaDoor
namespace Crc

def poly : Nat := 3988292384
def ones : Nat := 4294967295
def tab : List Nat := [0, 498536548, 997073096, 651767980, 1994146192, 1802195444, 1303535960, 1342533948, 3988292384, 4027552580, 3604390888, 3412177804, 2607071920, 2262029012, 2685067896, 3183342108]

/-- One bit. -/
def bit (x : Nat) : Nat := if x % 2 = 1 then x / 2 ^^^ poly else x / 2
/-- Four bits, by the table. -/
def nib (x : Nat) : Nat := x / 16 ^^^ tab.getD (x % 16) 0
def byteStep (x c : Nat) : Nat := nib (nib (x ^^^ c))
def raw (x : Nat) (l : List Nat) : Nat := l.foldl byteStep x
def crc (l : List Nat) : Nat := raw ones l ^^^ ones

def bits : Nat → Nat → Nat
  | 0, x => x
  | n + 1, x => bits n (bit x)

theorem xor_div (x y k : Nat) : (x ^^^ y) / 2 ^ k = x / 2 ^ k ^^^ y / 2 ^ k := by
  apply Nat.eq_of_testBit_eq; intro i; simp [Nat.testBit_div_two_pow]
theorem xor_mod (x y k : Nat) : (x ^^^ y) % 2 ^ k = x % 2 ^ k ^^^ y % 2 ^ k := by
  apply Nat.eq_of_testBit_eq; intro i; simp [Nat.testBit_mod_two_pow]
  cases decide (i < k) <;> simp
theorem mul_xor (x y k : Nat) : (x ^^^ y) * 2 ^ k = x * 2 ^ k ^^^ y * 2 ^ k := by
  apply Nat.eq_of_testBit_eq; intro i
  simp only [Nat.testBit_xor, Nat.testBit_mul_two_pow]
  cases decide (k ≤ i) <;> simp
theorem split_xor (x k : Nat) : x = (x / 2 ^ k) * 2 ^ k ^^^ x % 2 ^ k := by
  apply Nat.eq_of_testBit_eq; intro i
  simp only [Nat.testBit_xor, Nat.testBit_mul_two_pow, Nat.testBit_div_two_pow, Nat.testBit_mod_two_pow]
  by_cases h : k ≤ i
  · simp [h, show ¬ i < k by omega]
  · simp [h, show i < k by omega]

theorem bit_xor (x y : Nat) : bit (x ^^^ y) = bit x ^^^ bit y := by
  have h1 : (x ^^^ y) / 2 = x / 2 ^^^ y / 2 := xor_div x y 1
  have h2 : (x ^^^ y) % 2 = (x % 2 ^^^ y % 2) := xor_mod x y 1
  unfold bit
  rw [h1, h2]
  rcases Nat.mod_two_eq_zero_or_one x with hx | hx <;> rcases Nat.mod_two_eq_zero_or_one y with hy | hy <;> simp [hx, hy]
  · ac_rfl
  · ac_rfl
  · rw [show x / 2 ^^^ poly ^^^ (y / 2 ^^^ poly) = (x / 2 ^^^ y / 2) ^^^ (poly ^^^ poly) by ac_rfl]; simp

theorem bits_xor (n : Nat) : ∀ x y, bits n (x ^^^ y) = bits n x ^^^ bits n y := by
  induction n with
  | zero => intro x y; rfl
  | succ n ih => intro x y; simp [bits, bit_xor, ih]

theorem bits_add (m n : Nat) : ∀ x, bits (m + n) x = bits n (bits m x) := by
  induction m with
  | zero => intro x; simp [bits]
  | succ m ih => intro x; rw [show m + 1 + n = (m + n) + 1 by omega]; simp [bits, ih]

theorem bit_even (x : Nat) : bit (x * 2) = x := by
  unfold bit; rw [if_neg (by omega)]; omega

theorem bits_up (n : Nat) : ∀ x, bits n (x * 2 ^ n) = x := by
  induction n with
  | zero => intro x; simp [bits]
  | succ n ih => intro x; rw [Nat.pow_succ, ← Nat.mul_assoc]; simp [bits, bit_even, ih]

theorem nib_bits (x : Nat) : nib x = bits 4 x := by
  have h := split_xor x 4
  have h2 : bits 4 x = bits 4 (x / 2 ^ 4 * 2 ^ 4) ^^^ bits 4 (x % 2 ^ 4) := by
    rw [← bits_xor, ← h]
  rw [h2, bits_up]
  unfold nib
  have h3 : ∀ r, r < 16 → tab.getD r 0 = bits 4 r := by decide +kernel
  rw [h3 (x % 16) (by omega)]

theorem byteStep_bits (x c : Nat) : byteStep x c = bits 8 (x ^^^ c) := by
  unfold byteStep; rw [nib_bits, nib_bits, ← bits_add]

def num : List Nat → Nat
  | [] => 0
  | c :: l => c ^^^ num l * 2 ^ 8

theorem raw_bits (l : List Nat) : ∀ x, raw x l = bits (8 * l.length) (x ^^^ num l) := by
  induction l with
  | nil => intro x; simp [raw, num, bits]
  | cons c l ih =>
    intro x
    show raw (byteStep x c) l = _
    rw [ih, byteStep_bits]
    have : bits 8 (x ^^^ c) ^^^ num l = bits 8 (x ^^^ num (c :: l)) := by
      show _ = bits 8 (x ^^^ (c ^^^ num l * 2 ^ 8))
      rw [show x ^^^ (c ^^^ num l * 2 ^ 8) = (x ^^^ c) ^^^ num l * 2 ^ 8 by ac_rfl, bits_xor 8 (x ^^^ c), bits_up]
    rw [this, ← bits_add]
    simp; congr 1; omega

theorem bit_lt {x : Nat} (h : x < 4294967296) : bit x < 4294967296 := by
  unfold bit
  split
  · exact Nat.xor_lt_two_pow (n := 32) (by omega) (by decide)
  · omega
theorem bit_ne {x : Nat} (h : x < 4294967296) (h0 : x ≠ 0) : bit x ≠ 0 := by
  unfold bit
  split
  · intro e
    have e2 : x / 2 = poly := by
      have : x / 2 ^^^ poly ^^^ poly = 0 ^^^ poly := by rw [e]
      rw [Nat.xor_assoc, Nat.xor_self] at this; simpa using this
    unfold poly at e2; omega
  · omega
theorem bits_ne (n : Nat) : ∀ x, x < 4294967296 → x ≠ 0 → bits n x ≠ 0 := by
  induction n with
  | zero => intro x _ h; exact h
  | succ n ih => intro x h h0; exact ih _ (bit_lt h) (bit_ne h h0)

/-- What differs within 32 bits has two sums. -/
theorem burst (a b : List Nat) (x z at' : Nat) (hl : a.length = b.length) (hz : z < 4294967296) (h0 : z ≠ 0) (hat : at' ≤ 8 * b.length) (h : num a ^^^ num b = z * 2 ^ at') : raw x a ≠ raw x b := by
  intro e
  rw [raw_bits, raw_bits, hl] at e
  have h1 : bits (8 * b.length) (z * 2 ^ at') = 0 := by
    rw [← h, show num a ^^^ num b = (x ^^^ num a) ^^^ (x ^^^ num b) by
      rw [show (x ^^^ num a) ^^^ (x ^^^ num b) = (x ^^^ x) ^^^ (num a ^^^ num b) by ac_rfl]; simp, bits_xor, e]; simp
  rw [show 8 * b.length = at' + (8 * b.length - at') by omega, bits_add, bits_up] at h1
  exact bits_ne _ z hz h0 h1

theorem raw_append (x : Nat) (a b : List Nat) : raw x (a ++ b) = raw (raw x a) b := by simp [raw]

def four (n : Nat) : List Nat := [n % 256, n / 256 % 256, n / 65536 % 256, n / 16777216 % 256]

theorem num_four {n : Nat} (h : n < 4294967296) : num (four n) = n := by
  have e : ∀ a b : Nat, a < 256 → a ^^^ b * 2 ^ 8 = a + b * 256 := by
    intro a b ha
    have := split_xor (a + b * 256) 8
    rw [show (a + b * 256) / 2 ^ 8 = b by omega, show (a + b * 256) % 2 ^ 8 = a by omega] at this
    rw [this]; ac_rfl
  simp only [four, num]
  rw [e _ _ (by omega), e _ _ (by omega), e _ _ (by omega), e _ _ (by omega)]
  omega

theorem bits_lt (n : Nat) : ∀ x, x < 4294967296 → bits n x < 4294967296 := by
  induction n with
  | zero => intro x h; exact h
  | succ n ih => intro x h; exact ih _ (bit_lt h)

theorem raw_lt (l : List Nat) : ∀ x, x < 4294967296 → (∀ c ∈ l, c < 256) → raw x l < 4294967296 := by
  induction l with
  | nil => intro x h _; exact h
  | cons c l ih =>
    intro x h hc
    show raw (byteStep x c) l < _
    refine ih _ ?_ (fun d hd => hc d (by simp [hd]))
    rw [byteStep_bits]
    exact bits_lt _ _ (Nat.xor_lt_two_pow (n := 32) h (by have := hc c (by simp); omega))

theorem crc_lt {l : List Nat} (h : ∀ c ∈ l, c < 256) : crc l < 4294967296 :=
  Nat.xor_lt_two_pow (n := 32) (raw_lt l _ (by decide) h) (by decide)

/-- Bytes with their sum behind them: a constant. -/
theorem raw_sum {l : List Nat} (h : ∀ c ∈ l, c < 256) : raw ones (l ++ four (crc l)) = bits 32 ones := by
  rw [raw_append, raw_bits (four _), num_four (crc_lt h)]
  unfold crc
  congr 1
  rw [← Nat.xor_assoc, Nat.xor_self]; simp

def xor3 : List Nat → List Nat → List Nat → List Nat
  | a :: l, b :: m, c :: n => (a ^^^ b ^^^ c) :: xor3 l m n
  | _, _, _ => []

theorem raw_xor3 : ∀ (l m n : List Nat) (x y z : Nat), l.length = m.length → m.length = n.length → raw (x ^^^ y ^^^ z) (xor3 l m n) = raw x l ^^^ raw y m ^^^ raw z n
  | [], [], [], x, y, z, _, _ => rfl
  | a :: l, b :: m, c :: n, x, y, z, h1, h2 => by
    simp only [xor3]
    show raw (byteStep _ _) _ = raw (byteStep _ _) _ ^^^ raw (byteStep _ _) _ ^^^ raw (byteStep _ _) _
    rw [← raw_xor3 l m n _ _ _ (by simpa using h1) (by simpa using h2)]
    congr 1
    rw [byteStep_bits, byteStep_bits, byteStep_bits, byteStep_bits, ← bits_xor, ← bits_xor]
    congr 1; ac_rfl
theorem crc_xor3 (l m n : List Nat) (h1 : l.length = m.length) (h2 : m.length = n.length) : crc (xor3 l m n) = crc l ^^^ crc m ^^^ crc n := by
  unfold crc
  rw [show raw ones (xor3 l m n) = raw (ones ^^^ ones ^^^ ones) (xor3 l m n) from by simp, raw_xor3 l m n _ _ _ h1 h2]
  rw [show raw ones l ^^^ ones ^^^ (raw ones m ^^^ ones) ^^^ (raw ones n ^^^ ones) = (raw ones l ^^^ raw ones m ^^^ raw ones n ^^^ ones) ^^^ (ones ^^^ ones) by ac_rfl]; simp
end Crc
end Go.Proofs.YtmglopfjjbnfiaaDoor
