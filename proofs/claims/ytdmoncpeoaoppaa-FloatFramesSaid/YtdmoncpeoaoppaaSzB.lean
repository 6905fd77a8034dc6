import Derived.Test.YtdmoncpeoaoppaaSzA
/- Plain mathematics of hints: what they are normal as, which size a client gets, and what follows. It imports nothing of the program. -/
namespace Go.Proofs.Ytdmoncpeoaoppaa
namespace Sz

def oneM (l m : Int) : Int := if 0 < max m 0 then spanI (max m 0) l 65535 else max m 0
def aspB (a b c d : Int) : Bool := decide (1 ≤ a ∧ a ≤ 65535 ∧ 1 ≤ b ∧ b ≤ 65535 ∧ 1 ≤ c ∧ c ≤ 65535 ∧ 1 ≤ d ∧ d ≤ 65535 ∧ a * d ≤ c * b)
def waysH (h : Hn) : Hn := ⟨spanI h.minW 1 65535, spanI h.minH 1 65535, oneM (spanI h.minW 1 65535) h.maxW, oneM (spanI h.minH 1 65535) h.maxH, spanI h.baseW 0 65535, spanI h.baseH 0 65535, spanI h.incW 1 65535, spanI h.incH 1 65535, h.lowX, h.lowY, h.highX, h.highY⟩
def freeH (h : Hn) : Hn := ⟨h.minW, h.minH, h.maxW, h.maxH, h.baseW, h.baseH, h.incW, h.incH, 0, 0, 0, 0⟩
def lastH (h : Hn) : Hn := ⟨h.minW, h.minH, h.maxW, h.maxH, 0, 0, 1, 1, h.lowX, h.lowY, h.highX, h.highY⟩
def bounded (h : Hn) : Hn := if aspB h.lowX h.lowY h.highX h.highY = true then waysH h else freeH (waysH h)
def eqB (h k : Hn) : Bool := decide (h.minW = k.minW ∧ h.minH = k.minH ∧ h.maxW = k.maxW ∧ h.maxH = k.maxH ∧ h.baseW = k.baseW ∧ h.baseH = k.baseH ∧ h.incW = k.incW ∧ h.incH = k.incH ∧ h.lowX = k.lowX ∧ h.lowY = k.lowY ∧ h.highX = k.highX ∧ h.highY = k.highY)

theorem Hn.same {h k : Hn} (h1 : h.minW = k.minW) (h2 : h.minH = k.minH) (h3 : h.maxW = k.maxW) (h4 : h.maxH = k.maxH) (h5 : h.baseW = k.baseW) (h6 : h.baseH = k.baseH) (h7 : h.incW = k.incW) (h8 : h.incH = k.incH) (h9 : h.lowX = k.lowX) (h10 : h.lowY = k.lowY) (h11 : h.highX = k.highX) (h12 : h.highY = k.highY) : h = k := by
  cases h; cases k; simp only [] at *; subst h1 h2 h3 h4 h5 h6 h7 h8 h9 h10 h11 h12; rfl
theorem eqB_iff (h k : Hn) : eqB h k = true ↔ h = k := by
  unfold eqB; rw [decide_eq_true_iff]
  exact ⟨fun ⟨h1, h2, h3, h4, h5, h6, h7, h8, h9, h10, h11, h12⟩ => Hn.same h1 h2 h3 h4 h5 h6 h7 h8 h9 h10 h11 h12, fun e => by subst e; exact ⟨rfl, rfl, rfl, rfl, rfl, rfl, rfl, rfl, rfl, rfl, rfl, rfl⟩⟩
theorem aspB_iff (a b c d : Int) : aspB a b c d = true ↔ Asp a b c d := by
  unfold aspB; rw [decide_eq_true_iff]
  exact ⟨fun ⟨h1, h2, h3, h4, h5, h6, h7, h8, h9⟩ => ⟨h1, h2, h3, h4, h5, h6, h7, h8, h9⟩, fun ⟨h1, h2, h3, h4, h5, h6, h7, h8, h9⟩ => ⟨h1, h2, h3, h4, h5, h6, h7, h8, h9⟩⟩
theorem way_span (l m b i : Int) : Way (spanI l 1 65535) (oneM (spanI l 1 65535) m) (spanI b 0 65535) (spanI i 1 65535) := by
  constructor <;> (try unfold oneM) <;> unfold spanI <;> (try split) <;> omega
theorem way_self {l m b i : Int} (h : Way l m b i) : spanI l 1 65535 = l ∧ oneM l m = m ∧ spanI b 0 65535 = b ∧ spanI i 1 65535 = i := by
  obtain ⟨h1, h2, h3, h4, h5, h6, h7, h8⟩ := h
  refine ⟨?_, ?_, ?_, ?_⟩ <;> (try unfold oneM) <;> unfold spanI <;> (try split) <;> omega
theorem waysH_self {h : Hn} (h1 : Way h.minW h.maxW h.baseW h.incW) (h2 : Way h.minH h.maxH h.baseH h.incH) : waysH h = h := by
  obtain ⟨a1, a2, a3, a4⟩ := way_self h1
  obtain ⟨b1, b2, b3, b4⟩ := way_self h2
  refine Hn.same a1 b1 ?_ ?_ a3 b3 a4 b4 rfl rfl rfl rfl
  · show oneM (spanI h.minW 1 65535) h.maxW = h.maxW
    rw [a1]; exact a2
  · show oneM (spanI h.minH 1 65535) h.maxH = h.maxH
    rw [b1]; exact b2
theorem free_bd {h : Hn} (h1 : Way h.minW h.maxW h.baseW h.incW) (h2 : Way h.minH h.maxH h.baseH h.incH) : Bd (freeH h) := ⟨h1, h2, .inl ⟨rfl, rfl, rfl, rfl⟩⟩
theorem bounded_bd (h : Hn) : Bd (bounded h) := by
  unfold bounded; split
  · next ha => exact ⟨way_span _ _ _ _, way_span _ _ _ _, .inr ((aspB_iff _ _ _ _).1 ha)⟩
  · exact free_bd (way_span _ _ _ _) (way_span _ _ _ _)
theorem bounded_self {h : Hn} (hb : Bd h) : bounded h = h := by
  have hw := waysH_self hb.w hb.t
  unfold bounded; split
  · exact hw
  · next ha =>
    rcases hb.a with ⟨z1, z2, z3, z4⟩ | k
    · rw [hw]; exact Hn.same rfl rfl rfl rfl rfl rfl rfl rfl z1.symm z2.symm z3.symm z4.symm
    · exact absurd ((aspB_iff _ _ _ _).2 k) ha
theorem bounded_iff (h : Hn) : h = bounded h ↔ Bd h := ⟨fun e => e ▸ bounded_bd h, fun k => (bounded_self k).symm⟩
theorem last_bd {h : Hn} (hb : Bd h) : Bd (lastH (freeH h)) := by
  obtain ⟨h1, h2, -⟩ := hb
  exact ⟨⟨h1.l1, h1.l2, h1.m1, h1.m2, Int.le_refl 0, (by decide : (0:Int) ≤ 65535), Int.le_refl 1, (by decide : (1:Int) ≤ 65535)⟩, ⟨h2.l1, h2.l2, h2.m1, h2.m2, Int.le_refl 0, (by decide : (0:Int) ≤ 65535), Int.le_refl 1, (by decide : (1:Int) ≤ 65535)⟩, .inl ⟨rfl, rfl, rfl, rfl⟩⟩
theorem last_some {h : Hn} (hb : Bd h) : Some (lastH (freeH h)) := by
  have e1 := mx_ok hb.w
  have e2 := mx_ok hb.t
  have e3 := hb.w.l1
  have e4 := hb.t.l1
  refine ⟨h.minW, h.minH, ⟨?_, e1.1, ?_⟩, ⟨?_, e2.1, ?_⟩, .inl rfl⟩
  · show max h.minW 0 ≤ h.minW
    omega
  · show (h.minW - 0) % 1 = 0
    omega
  · show max h.minH 0 ≤ h.minH
    omega
  · show (h.minH - 0) % 1 = 0
    omega

/-- n is what hints are normal as. -/
def NormP (h n : Hn) : Prop :=
  (Some (bounded h) → n = bounded h) ∧ (¬ Some (bounded h) → Some (freeH (bounded h)) → n = freeH (bounded h)) ∧ (¬ Some (bounded h) → ¬ Some (freeH (bounded h)) → n = lastH (freeH (bounded h)))
theorem NormP.one {h n k : Hn} (a : NormP h n) (b : NormP h k) : n = k := by
  by_cases h1 : Some (bounded h)
  · rw [a.1 h1, b.1 h1]
  · by_cases h2 : Some (freeH (bounded h))
    · rw [a.2.1 h1 h2, b.2.1 h1 h2]
    · rw [a.2.2 h1 h2, b.2.2 h1 h2]
theorem NormP.right {h n : Hn} (a : NormP h n) : Bd n ∧ Some n := by
  have hb := bounded_bd h
  by_cases h1 : Some (bounded h)
  · rw [a.1 h1]; exact ⟨hb, h1⟩
  · by_cases h2 : Some (freeH (bounded h))
    · rw [a.2.1 h1 h2]; exact ⟨free_bd hb.w hb.t, h2⟩
    · rw [a.2.2 h1 h2]; exact ⟨last_bd hb, last_some hb⟩
theorem NormP.of {h : Hn} (hb : Bd h) (hs : Some h) : NormP h h := by
  have e := bounded_self hb
  refine ⟨fun _ => e.symm, fun k => ?_, fun k => ?_⟩ <;> (rw [e] at k; exact absurd hs k)
theorem NormP.self {h n : Hn} (a : NormP h n) : NormP n n := .of a.right.1 a.right.2

/-- x and y is the size that a client with the hints n gets that asks for w and t. -/
def FitP (n : Hn) (w t x y : Int) : Prop := Near (WG n) (spanI w 0 65535) x ∧ Near (Gd n x) (spanI t 0 65535) y
theorem FitP.one {n : Hn} {w t x y u v : Int} (a : FitP n w t x y) (b : FitP n w t u v) : x = u ∧ y = v := by
  have e := a.1.one b.1
  subst e
  exact ⟨rfl, a.2.one b.2⟩
theorem FitP.good {n : Hn} {w t x y : Int} (a : FitP n w t x y) : Gd n x y := a.2.1
theorem gd_b {n : Hn} (hb : Bd n) {x y : Int} (k : Gd n x y) : (1 ≤ x ∧ x ≤ 65535) ∧ (1 ≤ y ∧ y ≤ 65535) := by
  obtain ⟨⟨k1, k2, -⟩, ⟨k4, k5, -⟩, -⟩ := k
  have := wide_b hb
  have := tall_b hb
  omega
theorem FitP.self {n : Hn} (hb : Bd n) {x y : Int} (k : Gd n x y) : FitP n x y x y := by
  have := gd_b hb k
  have e1 : spanI x 0 65535 = x := by unfold spanI; omega
  have e2 : spanI y 0 65535 = y := by unfold spanI; omega
  unfold FitP; rw [e1, e2]
  exact ⟨.self ⟨y, k⟩, .self k⟩
theorem good_same {h n : Hn} (a : NormP h n) (x y : Int) : h = bounded h ∧ Gd h x y ↔ n = h ∧ Gd h x y := by
  constructor
  · rintro ⟨h1, h2⟩
    exact ⟨(a.one (.of ((bounded_iff h).1 h1) ⟨x, y, h2⟩)), h2⟩
  · rintro ⟨h1, h2⟩
    subst h1
    exact ⟨(bounded_iff n).2 a.right.1, h2⟩
/-- No good size is nearer. -/
theorem FitP.near_t {n : Hn} {w t x y o : Int} (a : FitP n w t x y) (ht : 0 ≤ t) (ht' : t ≤ 65535) (k : Gd n x o) : ¬ (y < o ∧ o ≤ t) ∧ ¬ (t < y ∧ o < y) := by
  have e2 : spanI t 0 65535 = t := by unfold spanI; omega
  have h := a.2
  rw [e2] at h
  constructor
  · rintro ⟨k1, k2⟩
    have := h.2.1 (by omega) o k k2
    omega
  · rintro ⟨k1, k2⟩
    have := h.2.2 k1 o k
    omega
theorem FitP.near_w {n : Hn} {w t x y o v : Int} (a : FitP n w t x y) (hw : 0 ≤ w) (hw' : w ≤ 65535) (k : Gd n o v) : ¬ (x < o ∧ o ≤ w) ∧ ¬ (w < x ∧ o < x) := by
  have e2 : spanI w 0 65535 = w := by unfold spanI; omega
  have h := a.1
  rw [e2] at h
  constructor
  · rintro ⟨k1, k2⟩
    have := h.2.1 (by omega) o ⟨v, k⟩ k2
    omega
  · rintro ⟨k1, k2⟩
    have := h.2.2 k1 o ⟨v, k⟩
    omega
/-- Hints without a bound but the least size. -/
theorem free_fit {a b w t x y : Int} {n : Hn} (a1 : 0 ≤ a) (a2 : a ≤ 65535) (b1 : 0 ≤ b) (b2 : b ≤ 65535) (w1 : 0 ≤ w) (w2 : w ≤ 65535) (t1 : 0 ≤ t) (t2 : t ≤ 65535) (hn : NormP ⟨a, b, 0, 0, 0, 0, 0, 0, 0, 0, 0, 0⟩ n) (k : FitP n w t x y) : x = max (max 1 a) w ∧ y = max (max 1 b) t := by
  have e : bounded ⟨a, b, 0, 0, 0, 0, 0, 0, 0, 0, 0, 0⟩ = ⟨max 1 a, max 1 b, 0, 0, 0, 0, 1, 1, 0, 0, 0, 0⟩ := by
    have e0 : aspB 0 0 0 0 = false := by decide
    unfold bounded
    simp only [e0]
    refine Hn.same ?_ ?_ ?_ ?_ ?_ ?_ ?_ ?_ rfl rfl rfl rfl
    · show spanI a 1 65535 = max 1 a
      unfold spanI; omega
    · show spanI b 1 65535 = max 1 b
      unfold spanI; omega
    · show oneM (spanI a 1 65535) 0 = 0
      unfold oneM; simp
    · show oneM (spanI b 1 65535) 0 = 0
      unfold oneM; simp
    · show spanI 0 0 65535 = 0
      decide
    · show spanI 0 0 65535 = 0
      decide
    · show spanI 0 1 65535 = 1
      decide
    · show spanI 0 1 65535 = 1
      decide
  have G : ∀ x y, Gd ⟨max 1 a, max 1 b, 0, 0, 0, 0, 1, 1, 0, 0, 0, 0⟩ x y ↔ (max 1 a ≤ x ∧ x ≤ 65535) ∧ (max 1 b ≤ y ∧ y ≤ 65535) := by
    intro x y
    unfold Gd wideS tallS newS Sd.S mx
    simp only []
    simp
    omega
  have hs : Some (bounded ⟨a, b, 0, 0, 0, 0, 0, 0, 0, 0, 0, 0⟩) := by rw [e]; exact ⟨max 1 a, max 1 b, (G _ _).2 (by omega)⟩
  have hn' := hn.1 hs
  rw [e] at hn'
  subst hn'
  have k1 : FitP ⟨max 1 a, max 1 b, 0, 0, 0, 0, 1, 1, 0, 0, 0, 0⟩ w t (max (max 1 a) w) (max (max 1 b) t) := by
    have e1 : spanI w 0 65535 = w := by unfold spanI; omega
    have e2 : spanI t 0 65535 = t := by unfold spanI; omega
    unfold FitP; rw [e1, e2]
    refine ⟨⟨⟨max 1 b, (G _ _).2 (by omega)⟩, fun _ z hz hn => ?_, fun _ z hz => ?_⟩, (G _ _).2 (by omega), fun _ z hz hn => ?_, fun _ z hz => ?_⟩
    · omega
    · obtain ⟨v, hv⟩ := hz
      have := (G _ _).1 hv
      omega
    · omega
    · have := (G _ _).1 hz
      omega
  exact k.one k1
end Sz
end Go.Proofs.Ytdmoncpeoaoppaa
