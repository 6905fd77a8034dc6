import Derived.Laws.FloatArith
namespace Go.Proofs.Yticfefiiiinadaa
open Ieee
theorem cmp_scale (a b : Int) (k : Int) (hk : 0 < k) : compare a b = compare (a * k) (b * k) := by
  rcases Int.lt_trichotomy a b with h | h | h
  · rw [Int.compare_eq_lt.2 h, Int.compare_eq_lt.2 (Int.mul_lt_mul_of_pos_right h hk)]
  · subst h; simp
  · rw [Int.compare_eq_gt.2 h, Int.compare_eq_gt.2 (Int.mul_lt_mul_of_pos_right h hk)]

/-- A number's size in units of 2 ^ -1074, and with its sign. -/
def vn (m : Nat) (i : Int) : Nat := m * 2 ^ (i + 1074).toNat
def sv (s : Bool) (m : Nat) (i : Int) : Int := if s then -(vn m i : Int) else vn m i

theorem vn_scale (m : Nat) (i b : Int) (hb : -1074 ≤ b) (hi : b ≤ i) : vn m i = (m <<< (i - b).toNat) * 2 ^ (b + 1074).toNat := by
  unfold vn
  rw [Nat.shiftLeft_eq, Nat.mul_assoc, ← Nat.pow_add]
  congr 2
  omega

theorem signed_sv (s : Bool) (m : Nat) (i b : Int) (hb : -1074 ≤ b) (hi : b ≤ i) : signed s m (i - b).toNat * ((2 ^ (b + 1074).toNat : Nat) : Int) = sv s m i := by
  unfold signed sv
  rw [vn_scale m i b hb hi]
  cases s
  · rw [if_neg (by decide), if_neg (by decide), Int.natCast_mul]
  · rw [if_pos rfl, if_pos rfl, Int.natCast_mul, Int.neg_mul]

theorem log2_shift (n k : Nat) (h : n ≠ 0) : (n * 2 ^ k).log2 = n.log2 + k := by
  have hp := Nat.two_pow_pos k
  have h0 : n * 2 ^ k ≠ 0 := Nat.mul_ne_zero h (by omega)
  rw [Nat.log2_eq_iff h0]
  have h1 := Nat.log2_self_le h
  have h2 : n < 2 ^ (n.log2 + 1) := Nat.lt_log2_self
  constructor
  · rw [Nat.pow_add]; exact Nat.mul_le_mul_right _ h1
  · rw [show n.log2 + k + 1 = (n.log2 + 1) + k by omega, Nat.pow_add]; exact Nat.mul_lt_mul_of_pos_right h2 hp

theorem order_num {x y : Nat} {s t : Bool} {m n : Nat} {i j : Int} (hx : double.read x = .number s m i) (hy : double.read y = .number t n j) (hi : -1074 ≤ i) (hj : -1074 ≤ j) :
    double.order x y = some (compare (sv s m i) (sv t n j)) := by
  unfold Format.order
  rw [hx, hy]
  simp only [Datum.order]
  rw [cmp_scale _ _ ((2 ^ (min i j + 1074).toNat : Nat) : Int) (by have := Nat.two_pow_pos (min i j + 1074).toNat; omega), signed_sv _ _ _ _ (by omega) (by omega), signed_sv _ _ _ _ (by omega) (by omega)]

theorem cut_zero (s : Bool) (n d : Nat) : Toward.zero.cut s n d = n / 2 ^ d := by
  unfold Toward.cut
  simp only [Nat.shiftLeft_eq, Nat.one_mul, Bool.toNat_false, Nat.add_zero]
  by_cases h : d ≤ n.log2 + 2
  · rw [Nat.min_eq_left h]
  · rw [Nat.min_eq_right (by omega)]
    have h1 : n < 2 ^ (n.log2 + 1) := Nat.lt_log2_self
    have h2 : 2 ^ (n.log2 + 1) ≤ 2 ^ (n.log2 + 2) := Nat.pow_le_pow_right (by omega) (by omega)
    have h3 : 2 ^ (n.log2 + 2) ≤ 2 ^ d := Nat.pow_le_pow_right (by omega) (by omega)
    rw [Nat.div_eq_of_lt (by omega), Nat.div_eq_of_lt (by omega)]

theorem cut_even (s : Bool) (K d : Nat) (hK : K ≠ 0) : Toward.even.cut s (K * 2 ^ d) d = K := by
  unfold Toward.cut
  have hl : d ≤ (K * 2 ^ d).log2 + 2 := by
    have h1 : 2 ^ d ≤ K * 2 ^ d := Nat.le_mul_of_pos_left _ (by omega)
    have h2 : d ≤ (K * 2 ^ d).log2 := (Nat.le_log2 (by have := Nat.two_pow_pos d; intro h; omega)).2 h1
    omega
  have hp := Nat.two_pow_pos d
  simp only [Nat.shiftLeft_eq, Nat.one_mul, Nat.min_eq_left hl, Nat.mul_mod_left, Nat.mul_div_cancel _ hp]
  simp only [Nat.mul_zero, Nat.not_lt_zero, decide_false, Bool.false_or]
  have : (2 ^ d == 0) = false := by simp
  rw [this]; simp

theorem read_rung (s : Bool) (K : Nat) (e : Nat) (hK : K < 2 ^ 53) (he : e ≤ 2045) (hn : 2 ^ 52 ≤ K ∨ e = 0) : double.read (double.word s (e * 2 ^ 52 + K)) = .number s K ((e : Int) - 1074) := by
  have hsw : double.signWeight = 2 ^ 63 := by decide
  have hb : double.binade = 2 ^ 52 := by decide
  have hi : double.infRung = 2047 * 2 ^ 52 := by decide
  have hl : double.leastPlace = -1074 := by decide
  unfold Format.read Format.word
  simp only [hsw, hb, hi, hl]
  have hr : e * 2 ^ 52 + K < 2047 * 2 ^ 52 := by omega
  have hneg : ((if s = true then 2 ^ 63 + (e * 2 ^ 52 + K) else e * 2 ^ 52 + K) / 2 ^ 63 % 2 == 1) = s := by
    cases s
    · simp; omega
    · simp; omega
  have hm : (if s = true then 2 ^ 63 + (e * 2 ^ 52 + K) else e * 2 ^ 52 + K) % 2 ^ 63 = e * 2 ^ 52 + K := by
    cases s
    · simp; omega
    · simp; omega
  rw [hneg, hm]
  by_cases h1 : e * 2 ^ 52 + K < 2 ^ 52
  · rw [if_pos h1]
    have : e = 0 := by omega
    subst this
    simp
  · rw [if_neg h1, if_pos hr]
    have hk : 2 ^ 52 ≤ K := by omega
    congr 1
    · omega
    · omega

theorem nearest_exact (s : Bool) (mag : Nat) (place : Int) (K : Nat) (e : Nat) (hK : K < 2 ^ 53) (he : e ≤ 2045) (hn : 2 ^ 52 ≤ K ∨ e = 0) (hK0 : K ≠ 0)
    (hv : mag * 2 ^ (place - ((e : Int) - 1074)).toNat = K * 2 ^ (((e : Int) - 1074) - place).toNat) : double.nearest s mag place = double.word s (e * 2 ^ 52 + K) := by
  have hb : double.binade = 2 ^ 52 := by decide
  have hi : double.infRung = 2047 * 2 ^ 52 := by decide
  have hl : double.leastPlace = -1074 := by decide
  have hfb : double.fractionBits = 52 := rfl
  have hm0 : mag ≠ 0 := by
    rintro rfl
    have := Nat.two_pow_pos (((e : Int) - 1074) - place).toNat
    rw [Nat.zero_mul] at hv
    rcases Nat.mul_eq_zero.1 hv.symm with h | h
    · exact hK0 h
    · rw [h] at this; omega
  have hlog : (mag.log2 : Int) + place = (K.log2 : Int) + ((e : Int) - 1074) := by
    have h := congrArg Nat.log2 hv
    rw [log2_shift _ _ hm0, log2_shift _ _ hK0] at h
    omega
  have hlast : max (place + mag.log2 - (52 : Nat)) (-1074) = (e : Int) - 1074 := by
    have hKl : K.log2 < 53 := (Nat.log2_lt hK0).2 hK
    rcases hn with hn | hn
    · have : 52 ≤ K.log2 := (Nat.le_log2 hK0).2 hn
      omega
    · omega
  unfold Format.nearest
  rw [if_neg hm0]
  simp only [hb, hi, hl, hfb, hlast]
  rw [Nat.shiftLeft_eq, hv, cut_even _ _ _ hK0]
  have : ((e : Int) - 1074 - -1074).toNat = e := by omega
  rw [this, Nat.min_eq_left (by omega)]

/-- What a word's read may be. -/
theorem read_is (x : Nat) : (∃ s t, double.read x = .nan s t) ∨ (∃ s, double.read x = .infinity s) ∨ ∃ s m i, double.read x = .number s m i ∧ m < 2 ^ 53 ∧ -1074 ≤ i ∧ i ≤ 971 ∧ (2 ^ 52 ≤ m ∨ i = -1074) := by
  have hsw : double.signWeight = 2 ^ 63 := by decide
  have hb : double.binade = 2 ^ 52 := by decide
  have hi : double.infRung = 2047 * 2 ^ 52 := by decide
  have hl : double.leastPlace = -1074 := by decide
  unfold Format.read
  simp only [hsw, hb, hi, hl]
  split
  · exact .inr (.inr ⟨_, _, _, rfl, by omega, by omega, by omega, .inr rfl⟩)
  · split
    · exact .inr (.inr ⟨_, _, _, rfl, by omega, by omega, by omega, .inl (by omega)⟩)
    · split
      · exact .inr (.inl ⟨_, rfl⟩)
      · exact .inl ⟨_, _, rfl⟩

theorem read_inf (s : Bool) : double.read (double.word s double.infRung) = .infinity s := by cases s <;> decide +kernel

/-- A number of 53 bits and not too great is written as it is. -/
theorem written (s : Bool) (mag : Nat) (place : Int) (m : Nat) (k : Nat) (hm0 : m ≠ 0) (hm : m < 2 ^ 53) (hmag : mag = m * 2 ^ k) (hp : -1074 ≤ place + k) (ht : (m.log2 : Int) + place + k ≤ 1023) :
    ∃ K L, double.read (double.nearest s mag place) = .number s K L ∧ K < 2 ^ 53 ∧ -1074 ≤ L ∧ L ≤ 971 ∧ vn K L = vn m (place + k) ∧ K ≠ 0 := by
  have hl : m.log2 < 53 := (Nat.log2_lt hm0).2 hm
  -- the last place
  obtain ⟨e, he⟩ : ∃ e : Nat, (e : Int) - 1074 = max (place + k + m.log2 - 52) (-1074) := ⟨(max (place + k + m.log2 - 52) (-1074) + 1074).toNat, by omega⟩
  have hle : (e : Int) - 1074 ≤ place + k := by omega
  obtain ⟨d, hd⟩ : ∃ d : Nat, place + k = (e : Int) - 1074 + d := ⟨(place + k - ((e : Int) - 1074)).toNat, by omega⟩
  have hlogK : (m * 2 ^ d).log2 = m.log2 + d := log2_shift _ _ hm0
  have hK0 : m * 2 ^ d ≠ 0 := Nat.mul_ne_zero hm0 (by have := Nat.two_pow_pos d; omega)
  have hK : m * 2 ^ d < 2 ^ 53 := (Nat.log2_lt hK0).1 (by omega)
  have hn : 2 ^ 52 ≤ m * 2 ^ d ∨ e = 0 := by
    by_cases h : e = 0
    · exact .inr h
    · exact .inl ((Nat.le_log2 hK0).1 (by omega))
  have hv : mag * 2 ^ (place - ((e : Int) - 1074)).toNat = m * 2 ^ d * 2 ^ (((e : Int) - 1074) - place).toNat := by
    rw [hmag, Nat.mul_assoc, Nat.mul_assoc, ← Nat.pow_add, ← Nat.pow_add]
    congr 2
    omega
  refine ⟨m * 2 ^ d, (e : Int) - 1074, ?_, hK, by omega, by omega, ?_, hK0⟩
  · rw [nearest_exact s mag place (m * 2 ^ d) e hK (by omega) hn hK0 hv]
    exact read_rung s _ e hK (by omega) hn
  · unfold vn
    rw [Nat.mul_assoc, ← Nat.pow_add]
    congr 2
    omega

theorem vn_up (m : Nat) (i : Int) (k : Nat) (hi : -1074 ≤ i) : vn m (i + k) = vn m i * 2 ^ k := by
  unfold vn
  rw [Nat.mul_assoc, ← Nat.pow_add]
  congr 2
  omega
theorem vn_shift (m : Nat) (i : Int) (k : Nat) : vn (m * 2 ^ k) i = vn m i * 2 ^ k := by
  unfold vn
  rw [Nat.mul_assoc, Nat.mul_assoc, Nat.mul_comm (2 ^ k)]
theorem vn_ge (m : Nat) (i : Int) (k : Nat) (h : 2 ^ k ≤ m) : 2 ^ (k + (i + 1074).toNat) ≤ vn m i := by
  unfold vn; rw [Nat.pow_add]; exact Nat.mul_le_mul_right _ h

/-- 1074, hidden: so that nothing reckons the power out. -/
def E74 : Nat := 1074
theorem E74_eq : E74 = 1074 := rfl
attribute [irreducible] E74
/-- What is cut towards zero. -/
theorem toInt_num {x : Nat} {s : Bool} {m : Nat} {i : Int} (hx : double.read x = .number s m i) (hi : -1074 ≤ i) : (double.read x).toInt .zero = some (if s then -((vn m i / 2 ^ E74 : Nat) : Int) else (vn m i / 2 ^ E74 : Nat)) := by
  have hE := E74_eq
  rw [hx]
  simp only [Datum.toInt, Datum.integral, signed, cut_zero, Nat.shiftLeft_eq, Nat.pow_zero, Nat.mul_one]
  have : m * 2 ^ i.toNat / 2 ^ (-i).toNat = vn m i / 2 ^ E74 := by
    unfold vn
    by_cases h : 0 ≤ i
    · have e1 : (-i).toNat = 0 := by omega
      have e2 : (i + 1074).toNat = i.toNat + E74 := by omega
      rw [e1, e2, Nat.pow_add, ← Nat.mul_assoc, Nat.mul_div_cancel _ (Nat.two_pow_pos _), Nat.pow_zero, Nat.div_one]
    · have e1 : i.toNat = 0 := by omega
      have e2 : E74 = (i + 1074).toNat + (-i).toNat := by omega
      rw [e1, Nat.pow_zero, Nat.mul_one]
      conv => rhs; rw [e2, Nat.pow_add, Nat.mul_comm m, Nat.mul_div_mul_left _ _ (Nat.two_pow_pos _)]
  rw [this]

/-! ### Weight -/
def cONE : Nat := 4679240012837945344
def cMAX : Nat := 4697254411347427328
def cUNIT : Nat := 4607182418800017408
def cSIXT : Nat := 4625196817309499392
theorem read_ONE : double.read cONE = .number false (2 ^ 52) (-36) := by decide +kernel
theorem read_MAX : double.read cMAX = .number false (2 ^ 52) (-32) := by decide +kernel
theorem read_UNIT : double.read cUNIT = .number false (2 ^ 52) (-52) := by decide +kernel
theorem read_SIXT : double.read cSIXT = .number false (2 ^ 52) (-48) := by decide +kernel
theorem read_ZERO : double.read 0 = .number false 0 (-1074) := by decide +kernel

/-- 2 ^ 1074, hidden. -/
def TT : Nat := 2 ^ E74
theorem TT_pos : 0 < TT := Nat.two_pow_pos _
theorem vn_pow (j : Nat) : vn (2 ^ 52) ((j : Int) - 52) = 2 ^ j * TT := by
  have hE := E74_eq
  unfold vn TT
  rw [← Nat.pow_add, ← Nat.pow_add]
  congr 1
  omega
theorem vn_UNIT : vn (2 ^ 52) (-52) = TT := by have := vn_pow 0; simpa using this
theorem vn_MAX : vn (2 ^ 52) (-32) = 1048576 * TT := by rw [show (-32 : Int) = ((20 : Nat) : Int) - 52 by omega, vn_pow, show (2 : Nat) ^ 20 = 1048576 by decide]
theorem vn_SIXT : vn (2 ^ 52) (-48) = 16 * TT := by rw [show (-48 : Int) = ((4 : Nat) : Int) - 52 by omega, vn_pow, show (2 : Nat) ^ 4 = 16 by decide]
theorem toInt_numT {x : Nat} {s : Bool} {m : Nat} {i : Int} (hx : double.read x = .number s m i) (hi : -1074 ≤ i) : (double.read x).toInt .zero = some (if s then -((vn m i / TT : Nat) : Int) else (vn m i / TT : Nat)) := toInt_num hx hi

theorem TT_eq : TT = 2 ^ E74 := rfl
attribute [irreducible] TT

def fmin2 (x y : Nat) : Option Nat := match double.order x y with | none => none | some .lt => some x | some .gt => some y | some .eq => some (if (double.read x).neg then x else y)
def fmax2 (x y : Nat) : Option Nat := match double.order x y with | none => none | some .lt => some y | some .gt => some x | some .eq => some (if (double.read x).neg then y else x)

def wt (x : Nat) : Int := match double.read x with
  | .nan .. => 65536
  | .infinity s => if s then 1 else 1048576
  | .number s m i => if s then 1 else max 1 (min 1048576 ((vn m i * 65536 / TT : Nat) : Int))

theorem toIntVal_of {x : Nat} {n : Int} (h : (double.read x).toInt .zero = some n) (h0 : 1 ≤ n) (h1 : n ≤ 1048576) : floatToIntVal .f64 x .i64 = some n := by
  have hd : FloatKind.f64.decode x = double.read x := rfl
  unfold floatToIntVal
  rw [hd, h]
  have hm : IntKind.i64.min = -9223372036854775808 := by decide
  have hM : IntKind.i64.max = 9223372036854775807 := by decide
  simp only [hm, hM]
  rw [if_pos ⟨by omega, by omega⟩]

theorem clip_neg {r : Nat} (h1 : double.order r cMAX = some .lt) (h2 : double.order r cUNIT = some .lt) : ∃ t u, fmin2 r cMAX = some t ∧ fmax2 t cUNIT = some u ∧ floatToIntVal .f64 u .i64 = some 1 := by
  refine ⟨r, cUNIT, by unfold fmin2; rw [h1], by unfold fmax2; rw [h2], toIntVal_of ?_ (by omega) (by omega)⟩
  rw [toInt_numT read_UNIT (by omega), vn_UNIT, Nat.div_self TT_pos]; rfl

theorem max_unit : double.order cMAX cUNIT = some .gt := by decide +kernel
theorem toInt_MAX : (double.read cMAX).toInt .zero = some 1048576 := by
  rw [toInt_numT read_MAX (by omega), vn_MAX, Nat.mul_div_cancel _ TT_pos]; rfl
theorem toInt_UNIT : (double.read cUNIT).toInt .zero = some 1 := by
  rw [toInt_numT read_UNIT (by omega), vn_UNIT, Nat.div_self TT_pos]; rfl

theorem clip_pos {r K : Nat} {L : Int} (hr : double.read r = .number false K L) (hL : -1074 ≤ L) : ∃ t u, fmin2 r cMAX = some t ∧ fmax2 t cUNIT = some u ∧ floatToIntVal .f64 u .i64 = some (max 1 (min 1048576 ((vn K L / TT : Nat) : Int))) := by
  have hT := TT_pos
  have o1 := order_num hr read_MAX hL (by omega)
  have o2 := order_num hr read_UNIT hL (by omega)
  simp only [sv, Bool.false_eq_true, if_false, vn_MAX, vn_UNIT] at o1 o2
  by_cases h : vn K L < 1048576 * TT
  · rw [Int.compare_eq_lt.2 (by exact_mod_cast h)] at o1
    have ht : fmin2 r cMAX = some r := by unfold fmin2; rw [o1]
    by_cases h' : vn K L < TT
    · rw [Int.compare_eq_lt.2 (by exact_mod_cast h')] at o2
      refine ⟨r, cUNIT, ht, by unfold fmax2; rw [o2], toIntVal_of ?_ (by omega) (by omega)⟩
      rw [toInt_UNIT, Nat.div_eq_of_lt h']
      rfl
    · have hd : 1 ≤ vn K L / TT := (Nat.le_div_iff_mul_le hT).2 (by omega)
      have hd' : vn K L / TT < 1048576 := (Nat.div_lt_iff_lt_mul hT).2 h
      have hm : fmax2 r cUNIT = some r := by
        unfold fmax2
        by_cases he : vn K L = TT
        · rw [Int.compare_eq_eq.2 (by exact_mod_cast he)] at o2; rw [o2]; simp [hr, Datum.neg]
        · rw [Int.compare_eq_gt.2 (by exact_mod_cast (by omega : TT < vn K L))] at o2; rw [o2]
      refine ⟨r, r, ht, hm, toIntVal_of ?_ (by omega) (by omega)⟩
      rw [toInt_numT hr hL]
      simp only [Bool.false_eq_true, if_false]
      congr 1
      omega
  · have hd : 1048576 ≤ vn K L / TT := (Nat.le_div_iff_mul_le hT).2 (by omega)
    have ht : fmin2 r cMAX = some cMAX := by
      unfold fmin2
      by_cases he : vn K L = 1048576 * TT
      · rw [Int.compare_eq_eq.2 (by exact_mod_cast he)] at o1; rw [o1]; simp [hr, Datum.neg]
      · rw [Int.compare_eq_gt.2 (by exact_mod_cast (by omega : 1048576 * TT < vn K L))] at o1; rw [o1]
    refine ⟨cMAX, cMAX, ht, by unfold fmax2; rw [max_unit], toIntVal_of ?_ (by omega) (by omega)⟩
    rw [toInt_MAX]
    congr 1
    omega

theorem order_inf_num {x y : Nat} {s t : Bool} {n : Nat} {j : Int} (hx : double.read x = .infinity s) (hy : double.read y = .number t n j) : double.order x y = some (if s then .lt else .gt) := by
  unfold Format.order; rw [hx, hy]; rfl

theorem clip_inf {r : Nat} (hr : double.read r = .infinity false) : ∃ t u, fmin2 r cMAX = some t ∧ fmax2 t cUNIT = some u ∧ floatToIntVal .f64 u .i64 = some 1048576 :=
  ⟨cMAX, cMAX, by unfold fmin2; rw [order_inf_num hr read_MAX]; rfl, by unfold fmax2; rw [max_unit], toIntVal_of toInt_MAX (by omega) (by omega)⟩
theorem clip_ninf {r : Nat} (hr : double.read r = .infinity true) : ∃ t u, fmin2 r cMAX = some t ∧ fmax2 t cUNIT = some u ∧ floatToIntVal .f64 u .i64 = some 1 :=
  clip_neg (by rw [order_inf_num hr read_MAX]; rfl) (by rw [order_inf_num hr read_UNIT]; rfl)
theorem clip_true {r K : Nat} {L : Int} (hr : double.read r = .number true K L) (hL : -1074 ≤ L) : ∃ t u, fmin2 r cMAX = some t ∧ fmax2 t cUNIT = some u ∧ floatToIntVal .f64 u .i64 = some 1 := by
  have hT := TT_pos
  refine clip_neg ?_ ?_
  · rw [order_num hr read_MAX hL (by omega)]
    simp only [sv, Bool.false_eq_true, if_false, if_true, vn_MAX]
    rw [Int.compare_eq_lt.2 (by omega)]
  · rw [order_num hr read_UNIT hL (by omega)]
    simp only [sv, Bool.false_eq_true, if_false, if_true, vn_UNIT]
    rw [Int.compare_eq_lt.2 (by omega)]

theorem overflow (s : Bool) (m : Nat) (i : Int) (hm : 2 ^ 52 ≤ m) (hm' : m < 2 ^ 53) (hi : 956 ≤ i) : double.nearest s (m * 2 ^ 52) (i + -36) = double.word s double.infRung := by
  have hb : double.binade = 2 ^ 52 := by decide
  have hif : double.infRung = 2047 * 2 ^ 52 := by decide
  have hl : double.leastPlace = -1074 := by decide
  have hfb : double.fractionBits = 52 := rfl
  have hm0 : m ≠ 0 := by omega
  have hlm : m.log2 = 52 := by
    have h1 : m.log2 < 53 := (Nat.log2_lt hm0).2 hm'
    have h2 : 52 ≤ m.log2 := (Nat.le_log2 hm0).2 hm
    omega
  unfold Format.nearest
  rw [if_neg (by omega)]
  simp only [hb, hif, hl, hfb, log2_shift m 52 hm0, hlm]
  have e1 : max (i + -36 + ((52 + 52 : Nat) : Int) - (52 : Nat)) (-1074) = i + 16 := by omega
  have e2 : (i + 16 - (i + -36)).toNat = 52 := by omega
  have e3 : (i + -36 - (i + 16)).toNat = 0 := by omega
  rw [e1, e2, e3, Nat.shiftLeft_zero, cut_even _ _ _ hm0, Nat.min_eq_right]
  omega

theorem weight_fl (x : Nat) (h : (double.read x).isNaN = false) : ∃ r t u, double.mul x cONE = some r ∧ fmin2 r cMAX = some t ∧ fmax2 t cUNIT = some u ∧ floatToIntVal .f64 u .i64 = some (wt x) := by
  unfold Format.mul wt
  rw [read_ONE]
  rcases read_is x with ⟨s, t, hx⟩ | ⟨s, hx⟩ | ⟨s, m, i, hx, hm, hi, hi', hn⟩
  · rw [hx] at h; cases h
  · rw [hx]
    simp only [Datum.product, Nat.pow_eq_zero, Option.map]
    rw [if_neg (by decide)]
    cases s
    · obtain ⟨t, u, h1, h2, h3⟩ := clip_inf (read_inf false)
      exact ⟨_, t, u, rfl, h1, h2, h3⟩
    · obtain ⟨t, u, h1, h2, h3⟩ := clip_ninf (read_inf true)
      exact ⟨_, t, u, rfl, h1, h2, h3⟩
  · rw [hx]
    simp only [Datum.product, Option.map, Format.write, Bool.xor_false]
    by_cases hm0 : m = 0
    · subst hm0
      have hr : double.read (double.nearest s (0 * 2 ^ 52) (i + -36)) = .number s 0 (-1074) := by
        rw [Nat.zero_mul]; unfold Format.nearest; rw [if_pos rfl]; cases s <;> decide +kernel
      cases s
      · obtain ⟨t, u, h1, h2, h3⟩ := clip_pos hr (by omega)
        refine ⟨_, t, u, rfl, h1, h2, ?_⟩
        rw [h3]; simp [vn]
      · obtain ⟨t, u, h1, h2, h3⟩ := clip_true hr (by omega)
        exact ⟨_, t, u, rfl, h1, h2, h3⟩
    · by_cases ho : (m.log2 : Int) + i + 16 ≤ 1023
      · obtain ⟨K, L, hr, hK, hL, hL', hv, hK0⟩ := written s (m * 2 ^ 52) (i + -36) m 52 hm0 hm rfl (by omega) (by omega)
        have hv' : vn K L = vn m i * 65536 := by
          rw [hv, show i + -36 + ((52 : Nat) : Int) = i + ((16 : Nat) : Int) by omega, vn_up _ _ _ hi]
        cases s
        · obtain ⟨t, u, h1, h2, h3⟩ := clip_pos hr hL
          refine ⟨_, t, u, rfl, h1, h2, ?_⟩
          rw [h3, hv']; rfl
        · obtain ⟨t, u, h1, h2, h3⟩ := clip_true hr hL
          exact ⟨_, t, u, rfl, h1, h2, h3⟩
      · have hlm : m.log2 < 53 := (Nat.log2_lt hm0).2 hm
        have hm2 : 2 ^ 52 ≤ m := by rcases hn with h | h <;> omega
        have hr := read_inf s
        rw [← overflow s m i hm2 hm (by omega)] at hr
        have hbig : 2 ^ 20 * TT ≤ vn m i * 65536 := by
          have h1 := vn_ge m i 52 hm2
          have h2 : (2 : Nat) ^ (E74 + 4) ≤ 2 ^ (52 + (i + 1074).toNat) := Nat.pow_le_pow_right (by omega) (by have := E74_eq; omega)
          have h3 : (2 : Nat) ^ (E74 + 4) = TT * 16 := by rw [TT_eq, Nat.pow_add, show (2 : Nat) ^ 4 = 16 by decide]
          omega
        cases s
        · obtain ⟨t, u, h1, h2, h3⟩ := clip_inf hr
          refine ⟨_, t, u, rfl, h1, h2, ?_⟩
          rw [h3]
          have : 1048576 ≤ vn m i * 65536 / TT := (Nat.le_div_iff_mul_le TT_pos).2 (by omega)
          simp only [Bool.false_eq_true, if_false]
          congr 1
          omega
        · obtain ⟨t, u, h1, h2, h3⟩ := clip_ninf hr
          exact ⟨_, t, u, rfl, h1, h2, h3⟩

/-! ### Numbers on the grid: whole multiples of 2 ^ -16 -/
def GV (x : Nat) (a : Int) : Prop := ∃ s K L, double.read x = .number s K L ∧ K < 2 ^ 53 ∧ -1074 ≤ L ∧ L ≤ 971 ∧ sv s K L * 65536 = a * TT

theorem GV.weight {x : Nat} {a : Int} (h : GV x a) : wt x = max 1 (min 1048576 a) := by
  obtain ⟨s, K, L, hx, hK, hL, hL', hv⟩ := h
  have hT := TT_pos
  have hT' : (0 : Int) < TT := by exact_mod_cast hT
  unfold wt
  rw [hx]
  cases s
  · simp only [sv, Bool.false_eq_true, if_false] at hv ⊢
    have ha : 0 ≤ a := by
      refine Int.not_lt.1 fun h => ?_
      have := Int.mul_neg_of_neg_of_pos h hT'
      omega
    have h1 : vn K L * 65536 = a.toNat * TT := by
      have : ((vn K L * 65536 : Nat) : Int) = ((a.toNat * TT : Nat) : Int) := by
        rw [Int.natCast_mul, Int.natCast_mul, Int.toNat_of_nonneg ha]; exact hv
      exact_mod_cast this
    rw [h1, Nat.mul_div_cancel _ hT]
    congr 2
    omega
  · simp only [sv, if_true] at hv ⊢
    have ha : a ≤ 0 := by
      refine Int.not_lt.1 fun h => ?_
      have := Int.mul_pos h hT'
      omega
    omega

theorem GV.notNaN {x : Nat} {a : Int} (h : GV x a) : (double.read x).isNaN = false := by
  obtain ⟨s, K, L, hx, _⟩ := h
  rw [hx]; rfl

theorem sv_mul (s : Bool) (m : Nat) (i : Int) (k : Int) : sv s m i * k = if s then -((vn m i : Int) * k) else (vn m i : Int) * k := by
  cases s <;> simp [sv, Int.neg_mul]

theorem castT {v n : Nat} (h : v * 65536 = n * TT) : (v : Int) * 65536 = (n : Int) * TT := by
  have := congrArg (fun z : Nat => (z : Int)) h
  simp only [Int.natCast_mul] at this
  exact this

theorem sv_zero (s : Bool) (i : Int) : sv s 0 i = 0 := by
  have h : vn 0 i = 0 := Nat.zero_mul _
  unfold sv; rw [h]; cases s <;> rfl

/-- float64(n) / One. -/
theorem quot_fl (n : Int) (h : n.natAbs ≤ 1048576) : ∃ r, double.div (floatOfInt .f64 n) cONE = some r ∧ GV r n := by
  have hfo : floatOfInt .f64 n = double.nearest (n < 0) n.natAbs 0 := rfl
  rw [hfo]
  unfold Format.div
  rw [read_ONE]
  by_cases h0 : n = 0
  · subst h0
    refine ⟨0, by decide +kernel, false, 0, -1074, read_ZERO, by omega, by omega, by omega, ?_⟩
    rw [sv_zero, Int.zero_mul, Int.zero_mul]
  · have hn0 : n.natAbs ≠ 0 := by omega
    have hlog : n.natAbs.log2 < 53 := (Nat.log2_lt hn0).2 (by omega)
    obtain ⟨K, L, hr, hK, hL, hL', hv, hK0⟩ := written (decide (n < 0)) n.natAbs 0 n.natAbs 0 hn0 (by omega) (by simp) (by omega) (by omega)
    rw [hr]
    have hlK : K.log2 < 53 := (Nat.log2_lt hK0).2 hK
    obtain ⟨c, hc⟩ : ∃ c, 52 + 2 + (2 ^ 52 : Nat).log2 - K.log2 = 52 + c ∧ c + K.log2 = 54 := ⟨54 - K.log2, by rw [show (2 ^ 52 : Nat).log2 = 52 by decide +kernel]; omega⟩
    have hd : (K <<< (52 + c)) % 2 ^ 52 = 0 := by rw [Nat.shiftLeft_eq, Nat.pow_add, Nat.mul_comm (2 ^ 52), ← Nat.mul_assoc]; exact Nat.mul_mod_left ..
    have hq : (K <<< (52 + c)) / 2 ^ 52 = K * 2 ^ c := by rw [Nat.shiftLeft_eq, Nat.pow_add, Nat.mul_comm (2 ^ 52), ← Nat.mul_assoc]; exact Nat.mul_div_cancel _ (by decide)
    simp only [Datum.quotient, show double.fractionBits = 52 from rfl, hc.1, hd, hq]
    rw [if_neg (by decide)]
    simp only [Option.map, Format.write, Bool.xor_false]
    have hlogv : (K.log2 : Int) + L = n.natAbs.log2 := by
      have hh := congrArg Nat.log2 hv
      unfold vn at hh
      rw [log2_shift _ _ hK0, log2_shift _ _ hn0] at hh
      omega
    obtain ⟨K2, L2, hr2, hK2, hL2, hL2', hv2, _⟩ := written (decide (n < 0)) (2 * (K * 2 ^ c) + ((0 : Nat) != 0).toNat) (L - -36 - (52 + c : Nat) - 1) K (c + 1) hK0 hK
      (by rw [Nat.pow_succ]; simp; rw [Nat.mul_comm, Nat.mul_assoc]) (by omega) (by omega)
    refine ⟨_, rfl, decide (n < 0), K2, L2, hr2, hK2, hL2, hL2', ?_⟩
    have e1 : L - -36 - ((52 + c : Nat) : Int) - 1 + ((c + 1 : Nat) : Int) = L - 16 := by omega
    rw [e1] at hv2
    have e2 : vn K L = vn K2 L2 * 65536 := by
      rw [hv2]
      have := vn_up K (L - 16) 16 (by omega)
      rw [show L - 16 + ((16 : Nat) : Int) = L by omega] at this
      rw [this]
    have e3 : vn n.natAbs (0 + ((0 : Nat) : Int)) = n.natAbs * TT := by unfold vn; rw [TT_eq, show (0 + ((0 : Nat) : Int) + 1074).toNat = E74 by have := E74_eq; omega]
    rw [sv_mul]
    have e4 : (vn K2 L2 : Int) * 65536 = (n.natAbs : Int) * TT := by
      have : vn K2 L2 * 65536 = n.natAbs * TT := by rw [← e2, hv, e3]
      exact castT this
    rw [e4]
    by_cases hneg : n < 0
    · rw [decide_eq_true hneg, if_pos rfl, ← Int.neg_mul, show -(n.natAbs : Int) = n by omega]
    · rw [decide_eq_false hneg, if_neg (by decide), show (n.natAbs : Int) = n by omega]

theorem sv_neg (s : Bool) (m : Nat) (i : Int) : sv (!s) m i = - sv s m i := by cases s <;> simp [sv]

/-- A sum of two of the grid is of the grid. -/
theorem sum_grid {s t : Bool} {m n : Nat} {i j : Int} {a b : Int} (hi : -1074 ≤ i) (hj : -1074 ≤ j) (hi' : i ≤ 971) (hj' : j ≤ 971) (ha : sv s m i * 65536 = a * TT) (hb : sv t n j * 65536 = b * TT) (hab : (a + b).natAbs < 2 ^ 40) :
    ∃ r, ((Datum.number s m i).sum (.number t n j)).map double.write = some r ∧ GV r (a + b) := by
  simp only [Datum.sum, Option.map, Format.write]
  refine ⟨_, rfl, ?_⟩
  have hB : -1074 ≤ min i j := by omega
  have e : (signed s m (i - min i j).toNat + signed t n (j - min i j).toNat) * ((2 ^ (min i j + 1074).toNat : Nat) : Int) * 65536 = (a + b) * TT := by
    rw [Int.add_mul, Int.add_mul, signed_sv _ _ _ _ hB (by omega), signed_sv _ _ _ _ hB (by omega), ha, hb, ← Int.add_mul]
  generalize signed s m (i - min i j).toNat + signed t n (j - min i j).toNat = tot at e ⊢
  generalize hBd : min i j = B at hB e ⊢
  have hB' : B ≤ 971 := by omega
  have hT' : (0 : Int) < TT := by exact_mod_cast TT_pos
  have hP : (0 : Int) < ((2 ^ (B + 1074).toNat : Nat) : Int) := by have := Nat.two_pow_pos (B + 1074).toNat; omega
  by_cases h0 : tot = 0
  · subst h0
    have hab0 : a + b = 0 := by
      rw [Int.zero_mul, Int.zero_mul] at e
      rcases Int.mul_eq_zero.1 e.symm with h | h
      · exact h
      · omega
    rw [hab0]
    refine ⟨(s && t), 0, -1074, ?_, by omega, by omega, by omega, by rw [sv_zero, Int.zero_mul, Int.zero_mul]⟩
    rw [if_pos rfl]
    have : double.nearest (s && t) (Int.natAbs 0) B = double.word (s && t) 0 := by unfold Format.nearest; rw [if_pos (by rfl)]
    rw [this]
    cases (s && t) <;> decide +kernel
  · rw [if_neg h0]
    have hn0 : tot.natAbs ≠ 0 := by omega
    -- the sizes
    have e' : tot.natAbs * 2 ^ (B + 1074).toNat * 65536 = (a + b).natAbs * TT := by
      have := congrArg Int.natAbs e
      rw [Int.natAbs_mul, Int.natAbs_mul, Int.natAbs_mul, Int.natAbs_natCast, Int.natAbs_natCast] at this
      exact this
    have hsg : decide (tot < 0) = decide (a + b < 0) := by
      have : tot < 0 ↔ a + b < 0 := by
        constructor
        · intro h
          refine Int.not_le.1 fun h' => ?_
          have h1 := Int.mul_nonneg h' (Int.le_of_lt hT')
          have h2 := Int.mul_neg_of_neg_of_pos h hP
          omega
        · intro h
          refine Int.not_le.1 fun h' => ?_
          have h1 := Int.mul_neg_of_neg_of_pos h hT'
          have h2 := Int.mul_nonneg h' (Int.le_of_lt hP)
          omega
      rw [decide_eq_decide]; exact this
    have hab0 : (a + b).natAbs ≠ 0 := by
      intro h
      rw [h, Nat.zero_mul] at e'
      have := Nat.two_pow_pos (B + 1074).toNat
      have h3 : tot.natAbs * 2 ^ (B + 1074).toNat ≠ 0 := Nat.mul_ne_zero hn0 (by omega)
      omega
    have hval : ∃ (m : Nat) (k : Nat), m ≠ 0 ∧ m < 2 ^ 53 ∧ tot.natAbs = m * 2 ^ k ∧ -1074 ≤ B + k ∧ (m.log2 : Int) + B + k ≤ 1023 ∧ vn m (B + k) * 65536 = (a + b).natAbs * TT := by
      have hlab : (a + b).natAbs.log2 < 40 := (Nat.log2_lt hab0).2 hab
      by_cases hc : B ≤ -16
      · refine ⟨(a + b).natAbs, (-16 - B).toNat, hab0, by omega, ?_, by omega, by omega, ?_⟩
        · have e1 : (B + 1074).toNat + 16 + (-16 - B).toNat = E74 := by have := E74_eq; omega
          have e2 : tot.natAbs * 2 ^ (B + 1074).toNat * 2 ^ 16 = (a + b).natAbs * 2 ^ (-16 - B).toNat * (2 ^ (B + 1074).toNat * 2 ^ 16) := by
            rw [show (2 : Nat) ^ 16 = 65536 by decide, e', TT_eq, ← e1, Nat.pow_add, Nat.pow_add, show (2 : Nat) ^ 16 = 65536 by decide]
            ac_rfl
          rw [Nat.mul_assoc] at e2
          exact Nat.eq_of_mul_eq_mul_right (Nat.mul_pos (Nat.two_pow_pos _) (by decide)) e2
        · have e3 : B + ((-16 - B).toNat : Int) = -16 := by omega
          rw [e3]; unfold vn
          rw [Nat.mul_assoc, TT_eq, show (-16 + 1074 : Int).toNat = E74 - 16 by have := E74_eq; omega, show (65536 : Nat) = 2 ^ 16 by decide, ← Nat.pow_add, show E74 - 16 + 16 = E74 by have := E74_eq; omega]
      · refine ⟨tot.natAbs, 0, hn0, ?_, by simp, by omega, ?_, by rw [← e']; unfold vn; simp⟩
        · have hle : tot.natAbs * TT ≤ (a + b).natAbs * TT := by
            rw [← e', Nat.mul_assoc]
            refine Nat.mul_le_mul_left _ ?_
            rw [TT_eq, show (65536 : Nat) = 2 ^ 16 by decide, ← Nat.pow_add]
            exact Nat.pow_le_pow_right (by omega) (by have := E74_eq; omega)
          have := Nat.le_of_mul_le_mul_right hle TT_pos
          omega
        · have hl := congrArg Nat.log2 e'
          have hE := E74_eq
          rw [show (65536 : Nat) = 2 ^ 16 by decide, TT_eq, log2_shift _ _ (Nat.mul_ne_zero hn0 (by have := Nat.two_pow_pos (B + 1074).toNat; omega)), log2_shift _ _ hn0, log2_shift _ _ hab0] at hl
          omega
    obtain ⟨m, k, hm0, hm, htm, hp, ht, hvv⟩ := hval
    obtain ⟨K, L, hr, hK, hL, hL', hv, hK0⟩ := written (decide (tot < 0)) tot.natAbs B m k hm0 hm htm hp ht
    refine ⟨decide (tot < 0), K, L, hr, hK, hL, hL', ?_⟩
    rw [sv_mul, hsg, hv]
    have e4 : (vn m (B + k) : Int) * 65536 = ((a + b).natAbs : Int) * TT := castT hvv
    rw [e4]
    by_cases hneg : a + b < 0
    · rw [decide_eq_true hneg, if_pos rfl, ← Int.neg_mul, show -((a + b).natAbs : Int) = a + b by omega]
    · rw [decide_eq_false hneg, if_neg (by decide), show ((a + b).natAbs : Int) = a + b by omega]

theorem add_grid {x y : Nat} {a b : Int} (hx : GV x a) (hy : GV y b) (hab : (a + b).natAbs < 2 ^ 40) : ∃ r, double.add x y = some r ∧ GV r (a + b) := by
  obtain ⟨s, m, i, h1, _, h2, h3, h4⟩ := hx
  obtain ⟨t, n, j, g1, _, g2, g3, g4⟩ := hy
  unfold Format.add
  rw [h1, g1]
  exact sum_grid h2 g2 h3 g3 h4 g4 hab
theorem sub_grid {x y : Nat} {a b : Int} (hx : GV x a) (hy : GV y b) (hab : (a - b).natAbs < 2 ^ 40) : ∃ r, double.sub x y = some r ∧ GV r (a - b) := by
  obtain ⟨s, m, i, h1, _, h2, h3, h4⟩ := hx
  obtain ⟨t, n, j, g1, _, g2, g3, g4⟩ := hy
  unfold Format.sub
  rw [h1, g1]
  exact sum_grid (t := !t) h2 g2 h3 g3 h4 (by rw [sv_neg, Int.neg_mul, g4, Int.neg_mul]) hab
theorem GV.zero : GV 0 0 := ⟨false, 0, -1074, read_ZERO, by omega, by omega, by omega, by rw [sv_zero, Int.zero_mul, Int.zero_mul]⟩

/-! ### Comparisons -/
theorem order_self (x : Nat) : (double.order x x != some .eq) = (double.read x).isNaN := by
  unfold Format.order
  rcases read_is x with ⟨s, t, hx⟩ | ⟨s, hx⟩ | ⟨s, m, i, hx, _⟩
  · rw [hx]; rfl
  · rw [hx]; cases s <;> rfl
  · rw [hx]; simp only [Datum.order, Datum.isNaN]
    rw [Int.compare_eq_eq.2 rfl]; rfl

theorem order_num_inf {x y : Nat} {s t : Bool} {n : Nat} {j : Int} (hx : double.read x = .number t n j) (hy : double.read y = .infinity s) : double.order x y = some (if s then .gt else .lt) := by
  unfold Format.order; rw [hx, hy]; rfl
theorem order_inf_inf {x y : Nat} {s t : Bool} (hx : double.read x = .infinity s) (hy : double.read y = .infinity t) : double.order x y = some (compare t.toNat s.toNat) := by
  unfold Format.order; rw [hx, hy]; rfl
theorem order_nan_l {x y : Nat} (hx : (double.read x).isNaN = true) : double.order x y = none := by
  unfold Format.order; cases h : double.read x <;> simp_all [Datum.isNaN, Datum.order]
theorem order_nan_r {x y : Nat} (hy : (double.read y).isNaN = true) : double.order x y = none := by
  unfold Format.order; cases h : double.read y <;> cases h2 : double.read x <;> simp_all [Datum.isNaN, Datum.order]

/-- 'x <= y' of two numbers. -/
theorem le_num {x y : Nat} {s t : Bool} {m n : Nat} {i j : Int} (hx : double.read x = .number s m i) (hy : double.read y = .number t n j) (hi : -1074 ≤ i) (hj : -1074 ≤ j) :
    (double.order x y == some .lt || double.order x y == some .eq) = decide (sv s m i ≤ sv t n j) := by
  rw [order_num hx hy hi hj]
  rcases Int.lt_trichotomy (sv s m i) (sv t n j) with h | h | h
  · rw [Int.compare_eq_lt.2 h, decide_eq_true (by omega)]; rfl
  · rw [Int.compare_eq_eq.2 h, decide_eq_true (by omega)]; rfl
  · rw [Int.compare_eq_gt.2 h, decide_eq_false (by omega)]; rfl
theorem ge_num {x y : Nat} {s t : Bool} {m n : Nat} {i j : Int} (hx : double.read x = .number s m i) (hy : double.read y = .number t n j) (hi : -1074 ≤ i) (hj : -1074 ≤ j) :
    (double.order x y == some .gt || double.order x y == some .eq) = decide (sv t n j ≤ sv s m i) := by
  rw [order_num hx hy hi hj]
  rcases Int.lt_trichotomy (sv s m i) (sv t n j) with h | h | h
  · rw [Int.compare_eq_lt.2 h, decide_eq_false (by omega)]; rfl
  · rw [Int.compare_eq_eq.2 h, decide_eq_true (by omega)]; rfl
  · rw [Int.compare_eq_gt.2 h, decide_eq_true (by omega)]; rfl

theorem wt_nan {x : Nat} (h : (double.read x).isNaN = true) : wt x = 65536 := by
  unfold wt; cases hx : double.read x <;> simp_all [Datum.isNaN]
theorem wt_bounds (x : Nat) : 1 ≤ wt x ∧ wt x ≤ 1048576 := by
  unfold wt
  cases double.read x with
  | nan s t => simp
  | infinity s => cases s <;> simp
  | number s m i =>
    cases s
    · simp only [Bool.false_eq_true, if_false]
      generalize ((vn m i * 65536 / TT : Nat) : Int) = q
      omega
    · simp

theorem wt_ge16 {x : Nat} (h : (double.order x cSIXT == some .gt || double.order x cSIXT == some .eq) = true) : wt x = 1048576 := by
  rcases read_is x with ⟨s, t, hx⟩ | ⟨s, hx⟩ | ⟨s, m, i, hx, hm, hi, _⟩
  · rw [order_nan_l (by rw [hx]; rfl)] at h; cases h
  · rw [order_inf_num hx read_SIXT] at h
    unfold wt; rw [hx]
    cases s
    · rfl
    · cases h
  · rw [ge_num hx read_SIXT hi (by omega)] at h
    have h := of_decide_eq_true h
    have hT := TT_pos
    simp only [sv, Bool.false_eq_true, if_false, vn_SIXT] at h
    unfold wt; rw [hx]
    cases s
    · simp only [Bool.false_eq_true, if_false] at h ⊢
      have : 1048576 ≤ vn m i * 65536 / TT := (Nat.le_div_iff_mul_le hT).2 (by omega)
      omega
    · simp only [if_true] at h
      omega

theorem wt_le0 {x : Nat} (h : (double.order x 0 == some .lt || double.order x 0 == some .eq) = true) : wt x = 1 := by
  rcases read_is x with ⟨s, t, hx⟩ | ⟨s, hx⟩ | ⟨s, m, i, hx, hm, hi, _⟩
  · rw [order_nan_l (by rw [hx]; rfl)] at h; cases h
  · rw [order_inf_num hx read_ZERO] at h
    unfold wt; rw [hx]
    cases s
    · cases h
    · rfl
  · rw [le_num hx read_ZERO hi (by omega), sv_zero] at h
    have h := of_decide_eq_true h
    unfold wt; rw [hx]
    cases s
    · simp only [sv, Bool.false_eq_true, if_false] at h ⊢
      have : vn m i = 0 := by omega
      rw [this, Nat.zero_mul, Nat.zero_div]; rfl
    · rfl

theorem between {x : Nat} (hn : (double.read x).isNaN = false) (h1 : (double.order x cSIXT == some .gt || double.order x cSIXT == some .eq) = false) (h2 : (double.order x 0 == some .lt || double.order x 0 == some .eq) = false) :
    ∃ K L, double.read x = .number false K L ∧ -1074 ≤ L ∧ 0 < vn K L ∧ vn K L < 16 * TT := by
  rcases read_is x with ⟨s, t, hx⟩ | ⟨s, hx⟩ | ⟨s, m, i, hx, hm, hi, _⟩
  · rw [hx] at hn; cases hn
  · rw [order_inf_num hx read_SIXT] at h1
    rw [order_inf_num hx read_ZERO] at h2
    cases s
    · cases h1
    · cases h2
  · rw [ge_num hx read_SIXT hi (by omega)] at h1
    rw [le_num hx read_ZERO hi (by omega), sv_zero] at h2
    have h1 := of_decide_eq_false h1
    have h2 := of_decide_eq_false h2
    simp only [sv, Bool.false_eq_true, if_false, vn_SIXT] at h1
    simp only [sv] at h2
    cases s
    · simp only [Bool.false_eq_true, if_false] at h1 h2
      exact ⟨m, i, hx, hi, by omega, by omega⟩
    · simp only [if_true] at h1 h2
      omega

/-- 'q <= x' of a number of the grid. -/
theorem le_grid {q x : Nat} {a K : Nat} {L : Int} (hq : GV q a) (hx : double.read x = .number false K L) (hL : -1074 ≤ L) :
    (double.order q x == some .lt || double.order q x == some .eq) = decide (a * TT ≤ vn K L * 65536) := by
  obtain ⟨s, M, J, h1, _, h2, _, h4⟩ := hq
  rw [le_num h1 hx h2 hL, decide_eq_decide]
  simp only [sv, Bool.false_eq_true, if_false] at *
  have e : ((a * TT : Nat) : Int) = (a : Int) * TT := Int.natCast_mul ..
  constructor <;> intro h <;> omega

theorem wt_mono {x y : Nat} (h : (double.order x y == some .lt || double.order x y == some .eq) = true) : wt x ≤ wt y := by
  have hT := TT_pos
  rcases read_is x with ⟨s, t, hx⟩ | ⟨s, hx⟩ | ⟨s, m, i, hx, hm, hi, _⟩
  · rw [order_nan_l (by rw [hx]; rfl)] at h; cases h
  · cases s
    · rcases read_is y with ⟨t, u, hy⟩ | ⟨t, hy⟩ | ⟨t, n, j, hy, hn, hj, _⟩
      · rw [order_nan_r (by rw [hy]; rfl)] at h; cases h
      · rw [order_inf_inf hx hy] at h
        cases t
        · unfold wt; rw [hx, hy]; simp
        · exact absurd h (by decide)
      · rw [order_inf_num hx hy] at h; cases h
    · have : wt x = 1 := by unfold wt; rw [hx]; rfl
      rw [this]; exact (wt_bounds y).1
  · rcases read_is y with ⟨t, u, hy⟩ | ⟨t, hy⟩ | ⟨t, n, j, hy, hn, hj, _⟩
    · rw [order_nan_r (by rw [hy]; rfl)] at h; cases h
    · rw [order_num_inf hx hy] at h
      cases t
      · have : wt y = 1048576 := by unfold wt; rw [hy]; rfl
        rw [this]; exact (wt_bounds x).2
      · cases h
    · rw [le_num hx hy hi hj] at h
      have h := of_decide_eq_true h
      cases s
      · cases t
        · simp only [sv, Bool.false_eq_true, if_false] at h
          have h' : vn m i * 65536 / TT ≤ vn n j * 65536 / TT := Nat.div_le_div_right (by omega)
          unfold wt; rw [hx, hy]
          simp only [Bool.false_eq_true, if_false]
          omega
        · simp only [sv, Bool.false_eq_true, if_false, if_true] at h
          have h0 : vn m i = 0 := by omega
          have : wt x = 1 := by unfold wt; rw [hx]; simp only [Bool.false_eq_true, if_false]; rw [h0, Nat.zero_mul, Nat.zero_div]; rfl
          rw [this]; exact (wt_bounds y).1
      · have : wt x = 1 := by unfold wt; rw [hx]; rfl
        rw [this]; exact (wt_bounds y).1
end Go.Proofs.Yticfefiiiinadaa
