import Derived.Test.YtdmoncpeoaoppaaPlain
/- Plain mathematics of sizes: lengths that a size may have one way, which sizes are good by hints, the nearest one, and what hints are normal as. It imports nothing of the program. -/
namespace Go.Proofs.Ytdmoncpeoaoppaa
namespace Sz

/-- Hints. -/
structure Hn where
  minW : Int
  minH : Int
  maxW : Int
  maxH : Int
  baseW : Int
  baseH : Int
  incW : Int
  incH : Int
  lowX : Int
  lowY : Int
  highX : Int
  highY : Int

/-- Lengths: from l to m, base b and whole numbers of i. -/
structure Sd where
  l : Int
  m : Int
  b : Int
  i : Int

def Sd.S (s : Sd) (n : Int) : Prop := s.l ≤ n ∧ n ≤ s.m ∧ (n - s.b) % s.i = 0
/-- A side that may be gone through. -/
structure Sd.Ok (s : Sd) : Prop where
  i1 : 1 ≤ s.i
  i2 : s.i ≤ 65535
  b1 : 0 ≤ s.b
  b2 : s.b ≤ s.l
  l2 : s.l ≤ 4611686018427387904
  m1 : 0 ≤ s.m
  m2 : s.m ≤ 65535
def downV (s : Sd) (n : Int) : Int := min n s.m - max (min n s.m - s.b) 0 % s.i
def upV (s : Sd) (n : Int) : Int := if 0 < (max n s.l - s.b) % s.i then max n s.l + (s.i - (max n s.l - s.b) % s.i) else max n s.l
def nearV (s : Sd) (n : Int) : Int := if s.l ≤ downV s n then downV s n else upV s s.l
def someB (s : Sd) : Bool := decide (upV s s.l ≤ s.m)

theorem mod_of {a i q : Int} (h : a = i * q) : a % i = 0 := by rw [h]; exact Int.mul_emod_right i q
theorem step_le {z b n i : Int} (hi : 1 ≤ i) (hz : (z - b) % i = 0) (h : z ≤ n) : z ≤ n - (n - b) % i := by
  have e1 := Int.emod_add_mul_ediv (z - b) i
  have e2 := Int.emod_add_mul_ediv (n - b) i
  have e3 : (z - b) / i ≤ (n - b) / i := Int.ediv_le_ediv (by omega) (by omega)
  have e4 : i * ((z - b) / i) ≤ i * ((n - b) / i) := Int.mul_le_mul_of_nonneg_left e3 (by omega)
  omega
theorem step_ge {z b n i : Int} (hi : 1 ≤ i) (hz : (z - b) % i = 0) (h : n ≤ z) (hp : 0 < (n - b) % i) : n + (i - (n - b) % i) ≤ z := by
  have e1 := Int.emod_add_mul_ediv (z - b) i
  have e2 := Int.emod_add_mul_ediv (n - b) i
  have e3 : (n - b) / i ≤ (z - b) / i := Int.ediv_le_ediv (by omega) (by omega)
  have e5 : (n - b) / i ≠ (z - b) / i := by intro h; rw [h] at e2; omega
  have e4 : i * ((n - b) / i + 1) ≤ i * ((z - b) / i) := Int.mul_le_mul_of_nonneg_left (by omega) (by omega)
  rw [Int.mul_add, Int.mul_one] at e4
  omega
theorem down_mod {b n i : Int} : (n - (n - b) % i - b) % i = 0 := by
  have e2 := Int.emod_add_mul_ediv (n - b) i
  exact mod_of (q := (n - b) / i) (by omega)
theorem up_mod {b n i : Int} : (n + (i - (n - b) % i) - b) % i = 0 := by
  have e2 := Int.emod_add_mul_ediv (n - b) i
  refine mod_of (q := (n - b) / i + 1) ?_
  rw [Int.mul_add, Int.mul_one]; omega
theorem down_le (s : Sd) (hi : 1 ≤ s.i) (n : Int) : downV s n ≤ n ∧ downV s n ≤ s.m := by
  have h := Int.emod_nonneg (max (min n s.m - s.b) 0) (by omega : s.i ≠ 0)
  unfold downV; omega
theorem down_in (s : Sd) (hi : 1 ≤ s.i) (hb : s.b ≤ s.l) (n : Int) (h : s.l ≤ downV s n) : s.S (downV s n) := by
  have h1 := down_le s hi n
  have h0 := Int.emod_nonneg (max (min n s.m - s.b) 0) (by omega : s.i ≠ 0)
  refine ⟨h, h1.2, ?_⟩
  have hm : max (min n s.m - s.b) 0 = min n s.m - s.b := by unfold downV at h; omega
  unfold downV; rw [hm]; exact down_mod
theorem down_most (s : Sd) (hi : 1 ≤ s.i) (hb : s.b ≤ s.l) (n z : Int) (hz : s.S z) (h : z ≤ n) : z ≤ downV s n := by
  obtain ⟨z1, z2, z3⟩ := hz
  have hm : max (min n s.m - s.b) 0 = min n s.m - s.b := by omega
  unfold downV; rw [hm]; exact step_le hi z3 (by omega)
theorem up_ge (s : Sd) (hi : 1 ≤ s.i) (n : Int) : n ≤ upV s n ∧ s.l ≤ upV s n := by
  have h := Int.emod_lt_of_pos (max n s.l - s.b) (by omega : 0 < s.i)
  unfold upV; split <;> omega
theorem up_in (s : Sd) (hi : 1 ≤ s.i) (n : Int) (h : upV s n ≤ s.m) : s.S (upV s n) := by
  refine ⟨(up_ge s hi n).2, h, ?_⟩
  have h0 := Int.emod_nonneg (max n s.l - s.b) (by omega : s.i ≠ 0)
  unfold upV; split
  · exact up_mod
  · omega
theorem up_least (s : Sd) (hi : 1 ≤ s.i) (n z : Int) (hz : s.S z) (h : n ≤ z) : upV s n ≤ z := by
  obtain ⟨z1, z2, z3⟩ := hz
  unfold upV; split
  · next hp => exact step_ge hi z3 (by omega) hp
  · omega
theorem some_iff (s : Sd) (hi : 1 ≤ s.i) : someB s = true ↔ ∃ z, s.S z := by
  unfold someB; rw [decide_eq_true_iff]
  exact ⟨fun h => ⟨_, up_in s hi _ h⟩, fun ⟨z, hz⟩ => Int.le_trans (up_least s hi _ z hz hz.1) hz.2.1⟩
theorem none_iff (s : Sd) (hi : 1 ≤ s.i) : someB s = false ↔ ∀ z, ¬ s.S z := by
  rw [← Bool.not_eq_true, some_iff s hi]; exact ⟨fun h z hz => h ⟨z, hz⟩, fun h ⟨z, hz⟩ => h z hz⟩

/-- y is the nearest one of a kind to n: the greatest up to n; if there is none, the least. -/
def Near (P : Int → Prop) (n y : Int) : Prop := P y ∧ (y ≤ n → ∀ z, P z → z ≤ n → z ≤ y) ∧ (n < y → ∀ z, P z → y ≤ z)
theorem Near.one {P : Int → Prop} {n y z : Int} (h : Near P n y) (k : Near P n z) : y = z := by
  obtain ⟨h1, h2, h3⟩ := h
  obtain ⟨k1, k2, k3⟩ := k
  by_cases a : y ≤ n
  · by_cases b : z ≤ n
    · have := h2 a z k1 b; have := k2 b y h1 a; omega
    · have := k3 (by omega) y h1; omega
  · by_cases b : z ≤ n
    · have := h3 (by omega) z k1; omega
    · have := h3 (by omega) z k1; have := k3 (by omega) y h1; omega
theorem Near.self {P : Int → Prop} {n : Int} (h : P n) : Near P n n := ⟨h, fun _ _ _ k => k, fun k => absurd k (by omega)⟩
theorem Near.congr {P Q : Int → Prop} {n y : Int} (h : ∀ z, P z ↔ Q z) (k : Near P n y) : Near Q n y :=
  ⟨(h y).1 k.1, fun a z hz => k.2.1 a z ((h z).2 hz), fun a z hz => k.2.2 a z ((h z).2 hz)⟩
theorem near_side (s : Sd) (hi : 1 ≤ s.i) (hb : s.b ≤ s.l) (n : Int) (h : ∃ z, s.S z) : Near s.S n (nearV s n) := by
  have h1 := down_le s hi n
  unfold nearV; split
  · next hl => exact ⟨down_in s hi hb n hl, fun _ z hz hn => down_most s hi hb n z hz hn, fun k => absurd k (by omega)⟩
  · next hl =>
    obtain ⟨z, hz⟩ := h
    have hu : upV s s.l ≤ s.m := Int.le_trans (up_least s hi _ z hz hz.1) hz.2.1
    refine ⟨up_in s hi _ hu, fun k => ?_, fun _ z hz => up_least s hi _ z hz hz.1⟩
    have := down_most s hi hb n _ (up_in s hi _ hu) k
    have := (up_in s hi _ hu).1
    omega

def mx (m : Int) : Int := if m = 0 then 65535 else m
/-- The one way's part of hints that are normal. -/
structure Way (l m b i : Int) : Prop where
  l1 : 1 ≤ l
  l2 : l ≤ 65535
  m1 : m = 0 ∨ l ≤ m
  m2 : m ≤ 65535
  b1 : 0 ≤ b
  b2 : b ≤ 65535
  i1 : 1 ≤ i
  i2 : i ≤ 65535
/-- The aspect may be. -/
structure Asp (a b c d : Int) : Prop where
  a1 : 1 ≤ a
  a2 : a ≤ 65535
  b1 : 1 ≤ b
  b2 : b ≤ 65535
  c1 : 1 ≤ c
  c2 : c ≤ 65535
  d1 : 1 ≤ d
  d2 : d ≤ 65535
  le : a * d ≤ c * b
def Zer (a b c d : Int) : Prop := a = 0 ∧ b = 0 ∧ c = 0 ∧ d = 0
/-- Hints are normal, though it may be that no size is good by them. -/
structure Bd (h : Hn) : Prop where
  w : Way h.minW h.maxW h.baseW h.incW
  t : Way h.minH h.maxH h.baseH h.incH
  a : Zer h.lowX h.lowY h.highX h.highY ∨ Asp h.lowX h.lowY h.highX h.highY
def newS (l m b i : Int) : Sd := ⟨max l b, mx m, b, i⟩
def wideS (h : Hn) : Sd := newS h.minW h.maxW h.baseW h.incW
def tallS (h : Hn) : Sd := newS h.minH h.maxH h.baseH h.incH
def inS (s : Sd) (f t : Int) : Sd := ⟨max s.l f, min s.m t, s.b, s.i⟩
def qUp (a b : Int) : Int := (a + b - 1) / b
def heightsS (h : Hn) (x : Int) : Sd := if h.lowX = 0 then tallS h else inS (tallS h) (qUp (x * h.highY) h.highX) (x * h.lowY / h.lowX)
def widthsS (h : Hn) : Sd := if h.lowX = 0 then wideS h else inS (wideS h) (qUp ((tallS h).l * h.lowX) h.lowY) ((tallS h).m * h.highX / h.highY)
/-- A size is good by hints. -/
def Gd (h : Hn) (x y : Int) : Prop := (wideS h).S x ∧ (tallS h).S y ∧ (h.lowX = 0 ∨ h.lowX * y ≤ x * h.lowY ∧ x * h.highY ≤ h.highX * y)
def WG (h : Hn) (x : Int) : Prop := ∃ y, Gd h x y
def Some (h : Hn) : Prop := ∃ x, WG h x

theorem mx_ok {l m b i : Int} (h : Way l m b i) : l ≤ mx m ∧ mx m ≤ 65535 := by
  have := h.m1; have := h.m2; have := h.l2; unfold mx; split <;> omega
theorem newS_ok {l m b i : Int} (h : Way l m b i) : (newS l m b i).Ok := by
  have := mx_ok h
  obtain ⟨h1, h2, h3, h4, h5, h6, h7, h8⟩ := h
  constructor <;> simp only [newS] <;> omega
theorem inS_ok {s : Sd} (h : s.Ok) {f t : Int} (hf : f ≤ 4611686018427387904) (ht : 0 ≤ t) : (inS s f t).Ok := by
  obtain ⟨h1, h2, h3, h4, h5, h6, h7⟩ := h
  constructor <;> simp only [inS] <;> omega
theorem qUp_le {a b z : Int} (hb : 1 ≤ b) : qUp a b ≤ z ↔ a ≤ b * z := by
  unfold qUp
  rw [← Int.lt_add_one_iff, Int.ediv_lt_iff_lt_mul (by omega), Int.add_mul, Int.one_mul, Int.mul_comm z b]
  omega
theorem le_q {a b z : Int} (hb : 1 ≤ b) : z ≤ a / b ↔ b * z ≤ a := by
  rw [Int.le_ediv_iff_mul_le (by omega), Int.mul_comm]
theorem inS_S (s : Sd) (f t n : Int) : (inS s f t).S n ↔ s.S n ∧ f ≤ n ∧ n ≤ t := by
  unfold inS Sd.S; constructor
  · rintro ⟨h1, h2, h3⟩; simp only [] at *; exact ⟨⟨by omega, by omega, h3⟩, by omega, by omega⟩
  · rintro ⟨⟨h1, h2, h3⟩, h4, h5⟩; exact ⟨by simp only []; omega, by simp only []; omega, h3⟩
theorem heights_S {h : Hn} (hb : Bd h) (x y : Int) : (heightsS h x).S y ↔ (tallS h).S y ∧ (h.lowX = 0 ∨ h.lowX * y ≤ x * h.lowY ∧ x * h.highY ≤ h.highX * y) := by
  unfold heightsS; split
  · next h0 => exact ⟨fun k => ⟨k, .inl h0⟩, fun k => k.1⟩
  · next h0 =>
    rcases hb.a with ⟨ha, -⟩ | ha
    · exact absurd ha h0
    · rw [inS_S, qUp_le ha.c1, le_q ha.a1]
      exact ⟨fun ⟨a, b, c⟩ => ⟨a, .inr ⟨c, b⟩⟩, fun ⟨a, b⟩ => ⟨a, (b.resolve_left h0).2, (b.resolve_left h0).1⟩⟩
theorem gd_iff {h : Hn} (hb : Bd h) (x y : Int) : Gd h x y ↔ (wideS h).S x ∧ (heightsS h x).S y := by
  rw [heights_S hb]; rfl
theorem gd_w {h : Hn} (hb : Bd h) {x y : Int} (k : Gd h x y) : (widthsS h).S x := by
  obtain ⟨k1, k2, k3⟩ := k
  unfold widthsS; split
  · exact k1
  · next h0 =>
    rcases hb.a with ⟨ha, -⟩ | ha
    · exact absurd ha h0
    · obtain ⟨k3, k4⟩ := k3.resolve_left h0
      rw [inS_S, qUp_le ha.b1, le_q ha.d1]
      refine ⟨k1, ?_, ?_⟩
      · have e1 := Int.mul_le_mul_of_nonneg_right k2.1 (by have := ha.a1; omega : 0 ≤ h.lowX)
        rw [Int.mul_comm y] at e1; rw [Int.mul_comm h.lowY]; omega
      · have e1 := Int.mul_le_mul_of_nonneg_right k2.2.1 (by have := ha.c1; omega : 0 ≤ h.highX)
        rw [Int.mul_comm y] at e1; rw [Int.mul_comm h.highY]; omega
theorem wg_w {h : Hn} (hb : Bd h) {x : Int} (k : WG h x) : (widthsS h).S x := by
  obtain ⟨y, hy⟩ := k; exact gd_w hb hy
theorem widths_wide {h : Hn} {x : Int} (k : (widthsS h).S x) : (wideS h).S x := by
  unfold widthsS at k; split at k
  · exact k
  · rw [inS_S] at k; exact k.1
theorem wg_iff {h : Hn} (hb : Bd h) (x : Int) : WG h x ↔ (widthsS h).S x ∧ ∃ y, (heightsS h x).S y :=
  ⟨fun k => ⟨wg_w hb k, by obtain ⟨y, hy⟩ := k; exact ⟨y, ((gd_iff hb x y).1 hy).2⟩⟩, fun ⟨k1, y, k2⟩ => ⟨y, (gd_iff hb x y).2 ⟨widths_wide k1, k2⟩⟩⟩
/-- What is good may be asked of the widths and the heights alone. -/
theorem gd_has {h : Hn} (hb : Bd h) (x y : Int) : Gd h x y ↔ (widthsS h).S x ∧ (heightsS h x).S y :=
  ⟨fun k => ⟨gd_w hb k, ((gd_iff hb x y).1 k).2⟩, fun ⟨k1, k2⟩ => (gd_iff hb x y).2 ⟨widths_wide k1, k2⟩⟩
theorem mul_b {a b : Int} (h1 : 0 ≤ a) (h2 : a ≤ 65535) (h3 : 0 ≤ b) (h4 : b ≤ 65535) : 0 ≤ a * b ∧ a * b ≤ 4294836225 :=
  ⟨Int.mul_nonneg h1 h3, Int.le_trans (Int.mul_le_mul h2 h4 h3 (by omega)) (by omega)⟩
theorem qUp_b {a b : Int} (h1 : 0 ≤ a) (h2 : a ≤ 4294836225) (h3 : 1 ≤ b) : 0 ≤ qUp a b ∧ qUp a b ≤ 4294836225 := by
  constructor
  · unfold qUp; exact Int.ediv_nonneg (by omega) (by omega)
  · rw [qUp_le h3]
    have := Int.mul_le_mul_of_nonneg_right h3 (by omega : (0:Int) ≤ 4294836225)
    omega
theorem q_b {a b : Int} (h1 : 0 ≤ a) (h2 : a ≤ 4294836225) (h3 : 1 ≤ b) : 0 ≤ a / b ∧ a / b ≤ 4294836225 :=
  ⟨Int.ediv_nonneg h1 (by omega), Int.le_trans (Int.ediv_le_self b h1) h2⟩
theorem heights_ok {h : Hn} (hb : Bd h) {x : Int} (h1 : 0 ≤ x) (h2 : x ≤ 65535) : (heightsS h x).Ok := by
  unfold heightsS; split
  · exact newS_ok hb.t
  · next h0 =>
    rcases hb.a with ⟨ha, -⟩ | ha
    · exact absurd ha h0
    · have k1 := mul_b h1 h2 (by have := ha.d1; omega) ha.d2
      have k2 := mul_b h1 h2 (by have := ha.b1; omega) ha.b2
      exact inS_ok (newS_ok hb.t) (by have := qUp_b k1.1 k1.2 ha.c1; omega) (q_b k2.1 k2.2 ha.a1).1
theorem tall_b {h : Hn} (hb : Bd h) : (1 ≤ (tallS h).l ∧ (tallS h).l ≤ 65535) ∧ (1 ≤ (tallS h).m ∧ (tallS h).m ≤ 65535) := by
  have := mx_ok hb.t
  obtain ⟨h1, h2, h3, h4, h5, h6, h7, h8⟩ := hb.t
  unfold tallS newS; simp only []; omega
theorem wide_b {h : Hn} (hb : Bd h) : (1 ≤ (wideS h).l ∧ (wideS h).l ≤ 65535) ∧ (1 ≤ (wideS h).m ∧ (wideS h).m ≤ 65535) := by
  have := mx_ok hb.w
  obtain ⟨h1, h2, h3, h4, h5, h6, h7, h8⟩ := hb.w
  unfold wideS newS; simp only []; omega
theorem widths_ok {h : Hn} (hb : Bd h) : (widthsS h).Ok := by
  unfold widthsS; split
  · exact newS_ok hb.w
  · next h0 =>
    rcases hb.a with ⟨ha, -⟩ | ha
    · exact absurd ha h0
    · obtain ⟨⟨t1, t2⟩, t3, t4⟩ := tall_b hb
      have k1 := mul_b (by omega : 0 ≤ (tallS h).l) t2 (by have := ha.a1; omega) ha.a2
      have k2 := mul_b (by omega : 0 ≤ (tallS h).m) t4 (by have := ha.c1; omega) ha.c2
      exact inS_ok (newS_ok hb.w) (by have := qUp_b k1.1 k1.2 ha.b1; omega) (q_b k2.1 k2.2 ha.d1).1
theorem widths_b {h : Hn} (hb : Bd h) {x : Int} (k : (widthsS h).S x) : 1 ≤ x ∧ x ≤ 65535 := by
  have := wide_b hb
  have := widths_wide k
  obtain ⟨k1, k2, -⟩ := this
  omega
end Sz
end Go.Proofs.Ytdmoncpeoaoppaa
