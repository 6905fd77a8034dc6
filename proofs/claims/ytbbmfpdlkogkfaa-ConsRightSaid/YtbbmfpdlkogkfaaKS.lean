/- The library's contracts laid at this program: numbers alone. Arguments that are slices of ints, opened; and the last step of a law's row, whatever its arguments are, where 'Below' is known of the world behind the call. -/
import Derived.Shelf.SlicesE.IndexFunc
import Derived.Shelf.Slices.Clone
import Derived.Shelf.SlSortCmp.Insertion1
import Derived.Shelf.Small.Wraps
import Derived.Shelf.SlGeneric
import Derived.Ground.SlgfProg
import Derived.Ground.SlsfProg
import Derived.Ground.NamesProg
import Derived.Ground.Names2Prog
import Derived.Test.YtbbmfpdlkogkfaaProg
import Derived.WalkKit
import Derived.ProofKit
import Derived.Below
import Derived.ChangeSame
import Derived.ChangeSlices
import Derived.Laws.FloatArith
import Derived.WalkSpells
import Derived.WalkLawsBesides
import Derived.LoopTactic
import Derived.Lib.Hide
import Derived.Outline
import Derived.Handy
import Derived.KernelRfl
import Derived.Laws.AppendOwn
import Derived.Laws.OwnMore
import Derived.Deep.AppendLies
import Derived.Maps.AppendAt
import Derived.Shelf.SlSortCmp.Kit1
import Derived.Deep.QuietTactic
import Derived.BigQuiet
import Derived.Deep.RegionHeld3
import Derived.Sort.LotA
import Derived.Sort.OwnSortedInts
section
namespace Go.Proofs
open Go.Shelf
def Ytbbmfpdlkogkfaa.anyInt_ren : Go.Shelf.Ren := ⟨fun | 8 => 119 | 6 => 121 | n => n, fun | 22 => 34 | 23 => 3 | 25 => 83 | 4 => 4 | 3 => 3 | 0 => 0 | n => n, fun | n => n⟩
theorem Ytbbmfpdlkogkfaa.anyInt : Go.Proofs.SlLaysH.n8 Try.prog Ytbbmfpdlkogkfaa.anyInt_ren := {
  mixed := by kernel_rfl
  f6 := ⟨Try.f121.name, by decide, Try.func121.trans (congrArg some (by kernel_rfl))⟩
  f8 := ⟨Try.f119.name, by decide, Try.func119.trans (congrArg some (by kernel_rfl))⟩
  t0 := Try.underlying0
  a0 := Try.isAgg0
  z0 := Try.sizeOf0
  v0 := Try.zeroValue0
  t3 := Try.underlying3
  a3 := Try.isAgg3
  z3 := Try.sizeOf3
  v3 := Try.zeroValue3
  t4 := Try.underlying4
  a4 := Try.isAgg4
  z4 := Try.sizeOf4
  v4 := Try.zeroValue4
  t22 := Try.underlying34
  a22 := Try.isAgg34
  z22 := Try.sizeOf34
  v22 := Try.zeroValue34
  a23 := Try.isAgg3
  z23 := Try.sizeOf3
  t25 := Try.underlying83
  a25 := Try.isAgg83
  z25 := Try.sizeOf83
  v25 := Try.zeroValue83 }
def Ytbbmfpdlkogkfaa.cloneInt_ren : Go.Shelf.Ren := ⟨fun | 15 => 113 | n => n, fun | 22 => 34 | 3 => 3 | 4 => 4 | n => n, fun | n => n⟩
theorem Ytbbmfpdlkogkfaa.cloneInt : Go.Proofs.Lays2.n15 Try.prog Ytbbmfpdlkogkfaa.cloneInt_ren := {
  mixed := by kernel_rfl
  f15 := Try.func113.trans (congrArg some (by kernel_rfl))
  t3 := Try.underlying3
  a3 := Try.isAgg3
  z3 := Try.sizeOf3
  v3 := Try.zeroValue3
  t4 := Try.underlying4
  a4 := Try.isAgg4
  z4 := Try.sizeOf4
  v4 := Try.zeroValue4
  t22 := Try.underlying34
  a22 := Try.isAgg34
  z22 := Try.sizeOf34
  v22 := Try.zeroValue34
  i3 := by kernel_rfl }
end Go.Proofs
end
section
namespace Go.Proofs.Ytbbmfpdlkogkfaa
open Go.RowKit Go.WideShapes Go.ChangeShapes Go.ChangeAt

/-- A value is a slice of these ints, in the world: nil or without elements, or a row of them. -/
def IsInts (w : World) (v : Value) (zs : List Int) : Prop :=
  (zs = [] ∧ ∃ a c, v = .slice a 0 c) ∨
  ∃ b off c, v = .slice (some ⟨b, off, none⟩) zs.length c ∧ b < w.heap.size ∧ zs.length ≤ 9223372036854775807 ∧ zs ≠ [] ∧ ∀ j, j < zs.length → w.cell? ⟨b, off + j, none⟩ = some (.int .i64 (zs.getD j 0))

section
variable {H : Type} {enc : TypeId × Value → H} {P : Program}
theorem block_of_cell {w : World} {a : Addr} {u : Value} (h : w.cell? a = some u) : a.block < w.heap.size := by
  unfold World.cell? at h
  cases hh : w.heap[a.block]? with
  | none => rw [hh] at h; simp at h
  | some o => exact (Array.getElem?_eq_some_iff.1 hh).1
theorem ints_of {t e : TypeId} {W : World} {b0 : Nat} {v : Value} {d : DataW H} {p : List MemPlace} (ht : P.underlying t = some (.slice e)) (he : P.underlying e = some (.int .i64)) (hc : P.cellsOf e = 1)
    (hv : Value.okWide P W .any b0 t v) (h : DataW.Trod enc P W 0 (fun _ => true) true t v d p) : ∃ zs, IsInts W v zs := by
  obtain ⟨a0, len, cap, rfl⟩ := okWide_slice ht hv
  obtain ⟨fuel, hf⟩ := h
  rcases open_ints ht he hc hf with ⟨hcs, _⟩ | ⟨a, len', cap', zs, hcs, _, hl, hm, hz, _, hcell, _⟩
  · simp only [Value.cells, List.cons.injEq, Value.slice.injEq, and_true] at hcs
    obtain ⟨rfl, rfl, rfl⟩ := hcs
    exact ⟨[], .inl ⟨rfl, _, _, rfl⟩⟩
  · simp only [Value.cells, List.cons.injEq, Value.slice.injEq, and_true] at hcs
    obtain ⟨rfl, rfl, rfl⟩ := hcs
    simp only [if_true] at hz
    by_cases h0 : len = 0
    · subst h0; exact ⟨[], .inl ⟨rfl, _, _, rfl⟩⟩
    · obtain ⟨b, off, spot⟩ := a
      have h1 := hcell 0 (by omega)
      have hspot : spot = none := by simpa [Addr.add] using World.cell?_spot h1
      subst hspot
      have hlen : (zs.take len).length = len := by simp; omega
      refine ⟨zs.take len, .inr ⟨b, off, cap, by rw [hlen], by simpa [Addr.add] using block_of_cell h1, by rw [hlen]; unfold maxLen at hm; omega, ?_, fun j hj => ?_⟩⟩
      · intro h; rw [h] at hlen; simp at hlen; omega
      · rw [hlen] at hj
        have := hcell j (by omega)
        rw [show ((⟨b, off, none⟩ : Addr).add j) = ⟨b, off + j, none⟩ by unfold Addr.add; split <;> simp_all] at this
        rw [this, List.getD_eq_getElem?_getD, List.getD_eq_getElem?_getD, List.getElem?_take_of_lt hj]

theorem post_args {f : Func} {s : ChangeSpec} {apart fresh handsOn : Bool} {W W' : World} {args : Array Value} {v : Value} {ds gs : List (DataW H)} {places : List MemPlace}
    (hW : DataW.Whole enc P f.params.toList s.vars apart W args.toList ds gs places)
    (hres : ∀ (b : Nat) (sp : Nat → Bool) (hd : Bool), DataW.TrodAll enc P W' b sp hd f.resultTypes.toList (v.resultList f.resultTypes.size) (s.fn H (ds ++ gs)).results [])
    (hargs : DataW.TrodAll enc P W' 0 (fun b => decide (b < W.heap.size)) true f.params.toList args.toList (s.fn H (ds ++ gs)).args places)
    (hvars : DataW.TrodVars enc P W' (fun b => decide (b < W.heap.size)) s.vars (s.fn H (ds ++ gs)).vars []) (hb : Below W.heap.size W W') :
    s.post enc P f apart fresh handsOn false W args v W' := by
  exact ⟨ds, gs, _, [], _, [], hW, hres _ _ _, hargs, hvars, World.keptBut_mono (fun p hp => ⟨hp, .inr (.inl hp)⟩) (hb.frame (· ∈ places)), fun h => by cases h⟩
end
end Go.Proofs.Ytbbmfpdlkogkfaa
end
section
namespace Go.Proofs.Ytbbmfpdlkogkfaa
open Ieee
theorem cmp_scale (a b : Int) (k : Int) (hk : 0 < k) : compare a b = compare (a * k) (b * k) := by
  rcases Int.lt_trichotomy a b with h | h | h
  · rw [Int.compare_eq_lt.2 h, Int.compare_eq_lt.2 (Int.mul_lt_mul_of_pos_right h hk)]
  · subst h; simp
  · rw [Int.compare_eq_gt.2 h, Int.compare_eq_gt.2 (Int.mul_lt_mul_of_pos_right h hk)]

/-- A number's size in units of 2 ^ -1074, and with its sign. -/
def vn (m : Nat) (i : Int) : Nat := m * 2 ^ (i + 1074).toNat
def sv (s : Bool) (m : Nat) (i : Int) : Int := if s then -(vn m i : Int) else vn m i

theorem vn_scale (m : Nat) (i b : Int) (hb : -1074 ≤ b) (hi : b ≤ i) : vn m i = (m <<< (i - b).toNat) * 2 ^ (b + 1074).toNat := by
  unfold vn
  rw [Nat.shiftLeft_eq, Nat.mul_assoc, ← Nat.pow_add]
  congr 2
  omega

theorem signed_sv (s : Bool) (m : Nat) (i b : Int) (hb : -1074 ≤ b) (hi : b ≤ i) : signed s m (i - b).toNat * ((2 ^ (b + 1074).toNat : Nat) : Int) = sv s m i := by
  unfold signed sv
  rw [vn_scale m i b hb hi]
  cases s
  · rw [if_neg (by decide), if_neg (by decide), Int.natCast_mul]
  · rw [if_pos rfl, if_pos rfl, Int.natCast_mul, Int.neg_mul]

theorem log2_shift (n k : Nat) (h : n ≠ 0) : (n * 2 ^ k).log2 = n.log2 + k := by
  have hp := Nat.two_pow_pos k
  have h0 : n * 2 ^ k ≠ 0 := Nat.mul_ne_zero h (by omega)
  rw [Nat.log2_eq_iff h0]
  have h1 := Nat.log2_self_le h
  have h2 : n < 2 ^ (n.log2 + 1) := Nat.lt_log2_self
  constructor
  · rw [Nat.pow_add]; exact Nat.mul_le_mul_right _ h1
  · rw [show n.log2 + k + 1 = (n.log2 + 1) + k by omega, Nat.pow_add]; exact Nat.mul_lt_mul_of_pos_right h2 hp

theorem order_num {x y : Nat} {s t : Bool} {m n : Nat} {i j : Int} (hx : double.read x = .number s m i) (hy : double.read y = .number t n j) (hi : -1074 ≤ i) (hj : -1074 ≤ j) :
    double.order x y = some (compare (sv s m i) (sv t n j)) := by
  unfold Format.order
  rw [hx, hy]
  simp only [Datum.order]
  rw [cmp_scale _ _ ((2 ^ (min i j + 1074).toNat : Nat) : Int) (by have := Nat.two_pow_pos (min i j + 1074).toNat; omega), signed_sv _ _ _ _ (by omega) (by omega), signed_sv _ _ _ _ (by omega) (by omega)]

theorem cut_zero (s : Bool) (n d : Nat) : Toward.zero.cut s n d = n / 2 ^ d := by
  unfold Toward.cut
  simp only [Nat.shiftLeft_eq, Nat.one_mul, Bool.toNat_false, Nat.add_zero]
  by_cases h : d ≤ n.log2 + 2
  · rw [Nat.min_eq_left h]
  · rw [Nat.min_eq_right (by omega)]
    have h1 : n < 2 ^ (n.log2 + 1) := Nat.lt_log2_self
    have h2 : 2 ^ (n.log2 + 1) ≤ 2 ^ (n.log2 + 2) := Nat.pow_le_pow_right (by omega) (by omega)
    have h3 : 2 ^ (n.log2 + 2) ≤ 2 ^ d := Nat.pow_le_pow_right (by omega) (by omega)
    rw [Nat.div_eq_of_lt (by omega), Nat.div_eq_of_lt (by omega)]

theorem cut_even (s : Bool) (K d : Nat) (hK : K ≠ 0) : Toward.even.cut s (K * 2 ^ d) d = K := by
  unfold Toward.cut
  have hl : d ≤ (K * 2 ^ d).log2 + 2 := by
    have h1 : 2 ^ d ≤ K * 2 ^ d := Nat.le_mul_of_pos_left _ (by omega)
    have h2 : d ≤ (K * 2 ^ d).log2 := (Nat.le_log2 (by have := Nat.two_pow_pos d; intro h; omega)).2 h1
    omega
  have hp := Nat.two_pow_pos d
  simp only [Nat.shiftLeft_eq, Nat.one_mul, Nat.min_eq_left hl, Nat.mul_mod_left, Nat.mul_div_cancel _ hp]
  simp only [Nat.mul_zero, Nat.not_lt_zero, decide_false, Bool.false_or]
  have : (2 ^ d == 0) = false := by simp
  rw [this]; simp

theorem read_rung (s : Bool) (K : Nat) (e : Nat) (hK : K < 2 ^ 53) (he : e ≤ 2045) (hn : 2 ^ 52 ≤ K ∨ e = 0) : double.read (double.word s (e * 2 ^ 52 + K)) = .number s K ((e : Int) - 1074) := by
  have hsw : double.signWeight = 2 ^ 63 := by decide
  have hb : double.binade = 2 ^ 52 := by decide
  have hi : double.infRung = 2047 * 2 ^ 52 := by decide
  have hl : double.leastPlace = -1074 := by decide
  unfold Format.read Format.word
  simp only [hsw, hb, hi, hl]
  have hr : e * 2 ^ 52 + K < 2047 * 2 ^ 52 := by omega
  have hneg : ((if s = true then 2 ^ 63 + (e * 2 ^ 52 + K) else e * 2 ^ 52 + K) / 2 ^ 63 % 2 == 1) = s := by
    cases s
    · simp; omega
    · simp; omega
  have hm : (if s = true then 2 ^ 63 + (e * 2 ^ 52 + K) else e * 2 ^ 52 + K) % 2 ^ 63 = e * 2 ^ 52 + K := by
    cases s
    · simp; omega
    · simp; omega
  rw [hneg, hm]
  by_cases h1 : e * 2 ^ 52 + K < 2 ^ 52
  · rw [if_pos h1]
    have : e = 0 := by omega
    subst this
    simp
  · rw [if_neg h1, if_pos hr]
    have hk : 2 ^ 52 ≤ K := by omega
    congr 1
    · omega
    · omega

theorem nearest_exact (s : Bool) (mag : Nat) (place : Int) (K : Nat) (e : Nat) (hK : K < 2 ^ 53) (he : e ≤ 2045) (hn : 2 ^ 52 ≤ K ∨ e = 0) (hK0 : K ≠ 0)
    (hv : mag * 2 ^ (place - ((e : Int) - 1074)).toNat = K * 2 ^ (((e : Int) - 1074) - place).toNat) : double.nearest s mag place = double.word s (e * 2 ^ 52 + K) := by
  have hb : double.binade = 2 ^ 52 := by decide
  have hi : double.infRung = 2047 * 2 ^ 52 := by decide
  have hl : double.leastPlace = -1074 := by decide
  have hfb : double.fractionBits = 52 := rfl
  have hm0 : mag ≠ 0 := by
    rintro rfl
    have := Nat.two_pow_pos (((e : Int) - 1074) - place).toNat
    rw [Nat.zero_mul] at hv
    rcases Nat.mul_eq_zero.1 hv.symm with h | h
    · exact hK0 h
    · rw [h] at this; omega
  have hlog : (mag.log2 : Int) + place = (K.log2 : Int) + ((e : Int) - 1074) := by
    have h := congrArg Nat.log2 hv
    rw [log2_shift _ _ hm0, log2_shift _ _ hK0] at h
    omega
  have hlast : max (place + mag.log2 - (52 : Nat)) (-1074) = (e : Int) - 1074 := by
    have hKl : K.log2 < 53 := (Nat.log2_lt hK0).2 hK
    rcases hn with hn | hn
    · have : 52 ≤ K.log2 := (Nat.le_log2 hK0).2 hn
      omega
    · omega
  unfold Format.nearest
  rw [if_neg hm0]
  simp only [hb, hi, hl, hfb, hlast]
  rw [Nat.shiftLeft_eq, hv, cut_even _ _ _ hK0]
  have : ((e : Int) - 1074 - -1074).toNat = e := by omega
  rw [this, Nat.min_eq_left (by omega)]

/-- What a word's read may be. -/
theorem read_is (x : Nat) : (∃ s t, double.read x = .nan s t) ∨ (∃ s, double.read x = .infinity s) ∨ ∃ s m i, double.read x = .number s m i ∧ m < 2 ^ 53 ∧ -1074 ≤ i ∧ i ≤ 971 ∧ (2 ^ 52 ≤ m ∨ i = -1074) := by
  have hsw : double.signWeight = 2 ^ 63 := by decide
  have hb : double.binade = 2 ^ 52 := by decide
  have hi : double.infRung = 2047 * 2 ^ 52 := by decide
  have hl : double.leastPlace = -1074 := by decide
  unfold Format.read
  simp only [hsw, hb, hi, hl]
  split
  · exact .inr (.inr ⟨_, _, _, rfl, by omega, by omega, by omega, .inr rfl⟩)
  · split
    · exact .inr (.inr ⟨_, _, _, rfl, by omega, by omega, by omega, .inl (by omega)⟩)
    · split
      · exact .inr (.inl ⟨_, rfl⟩)
      · exact .inl ⟨_, _, rfl⟩

theorem read_inf (s : Bool) : double.read (double.word s double.infRung) = .infinity s := by cases s <;> decide +kernel

/-- A number of 53 bits and not too great is written as it is. -/
theorem written (s : Bool) (mag : Nat) (place : Int) (m : Nat) (k : Nat) (hm0 : m ≠ 0) (hm : m < 2 ^ 53) (hmag : mag = m * 2 ^ k) (hp : -1074 ≤ place + k) (ht : (m.log2 : Int) + place + k ≤ 1023) :
    ∃ K L, double.read (double.nearest s mag place) = .number s K L ∧ K < 2 ^ 53 ∧ -1074 ≤ L ∧ L ≤ 971 ∧ vn K L = vn m (place + k) ∧ K ≠ 0 := by
  have hl : m.log2 < 53 := (Nat.log2_lt hm0).2 hm
  -- the last place
  obtain ⟨e, he⟩ : ∃ e : Nat, (e : Int) - 1074 = max (place + k + m.log2 - 52) (-1074) := ⟨(max (place + k + m.log2 - 52) (-1074) + 1074).toNat, by omega⟩
  have hle : (e : Int) - 1074 ≤ place + k := by omega
  obtain ⟨d, hd⟩ : ∃ d : Nat, place + k = (e : Int) - 1074 + d := ⟨(place + k - ((e : Int) - 1074)).toNat, by omega⟩
  have hlogK : (m * 2 ^ d).log2 = m.log2 + d := log2_shift _ _ hm0
  have hK0 : m * 2 ^ d ≠ 0 := Nat.mul_ne_zero hm0 (by have := Nat.two_pow_pos d; omega)
  have hK : m * 2 ^ d < 2 ^ 53 := (Nat.log2_lt hK0).1 (by omega)
  have hn : 2 ^ 52 ≤ m * 2 ^ d ∨ e = 0 := by
    by_cases h : e = 0
    · exact .inr h
    · exact .inl ((Nat.le_log2 hK0).1 (by omega))
  have hv : mag * 2 ^ (place - ((e : Int) - 1074)).toNat = m * 2 ^ d * 2 ^ (((e : Int) - 1074) - place).toNat := by
    rw [hmag, Nat.mul_assoc, Nat.mul_assoc, ← Nat.pow_add, ← Nat.pow_add]
    congr 2
    omega
  refine ⟨m * 2 ^ d, (e : Int) - 1074, ?_, hK, by omega, by omega, ?_, hK0⟩
  · rw [nearest_exact s mag place (m * 2 ^ d) e hK (by omega) hn hK0 hv]
    exact read_rung s _ e hK (by omega) hn
  · unfold vn
    rw [Nat.mul_assoc, ← Nat.pow_add]
    congr 2
    omega

theorem vn_up (m : Nat) (i : Int) (k : Nat) (hi : -1074 ≤ i) : vn m (i + k) = vn m i * 2 ^ k := by
  unfold vn
  rw [Nat.mul_assoc, ← Nat.pow_add]
  congr 2
  omega
theorem vn_shift (m : Nat) (i : Int) (k : Nat) : vn (m * 2 ^ k) i = vn m i * 2 ^ k := by
  unfold vn
  rw [Nat.mul_assoc, Nat.mul_assoc, Nat.mul_comm (2 ^ k)]
theorem vn_ge (m : Nat) (i : Int) (k : Nat) (h : 2 ^ k ≤ m) : 2 ^ (k + (i + 1074).toNat) ≤ vn m i := by
  unfold vn; rw [Nat.pow_add]; exact Nat.mul_le_mul_right _ h

/-- 1074, hidden: so that nothing reckons the power out. -/
def E74 : Nat := 1074
theorem E74_eq : E74 = 1074 := rfl
attribute [irreducible] E74
/-- What is cut towards zero. -/
theorem toInt_num {x : Nat} {s : Bool} {m : Nat} {i : Int} (hx : double.read x = .number s m i) (hi : -1074 ≤ i) : (double.read x).toInt .zero = some (if s then -((vn m i / 2 ^ E74 : Nat) : Int) else (vn m i / 2 ^ E74 : Nat)) := by
  have hE := E74_eq
  rw [hx]
  simp only [Datum.toInt, Datum.integral, signed, cut_zero, Nat.shiftLeft_eq, Nat.pow_zero, Nat.mul_one]
  have : m * 2 ^ i.toNat / 2 ^ (-i).toNat = vn m i / 2 ^ E74 := by
    unfold vn
    by_cases h : 0 ≤ i
    · have e1 : (-i).toNat = 0 := by omega
      have e2 : (i + 1074).toNat = i.toNat + E74 := by omega
      rw [e1, e2, Nat.pow_add, ← Nat.mul_assoc, Nat.mul_div_cancel _ (Nat.two_pow_pos _), Nat.pow_zero, Nat.div_one]
    · have e1 : i.toNat = 0 := by omega
      have e2 : E74 = (i + 1074).toNat + (-i).toNat := by omega
      rw [e1, Nat.pow_zero, Nat.mul_one]
      conv => rhs; rw [e2, Nat.pow_add, Nat.mul_comm m, Nat.mul_div_mul_left _ _ (Nat.two_pow_pos _)]
  rw [this]

/-! ### Weight -/
def cONE : Nat := 4679240012837945344
def cMAX : Nat := 4697254411347427328
def cUNIT : Nat := 4607182418800017408
def cSIXT : Nat := 4625196817309499392
theorem read_ONE : double.read cONE = .number false (2 ^ 52) (-36) := by decide +kernel
theorem read_MAX : double.read cMAX = .number false (2 ^ 52) (-32) := by decide +kernel
theorem read_UNIT : double.read cUNIT = .number false (2 ^ 52) (-52) := by decide +kernel
theorem read_SIXT : double.read cSIXT = .number false (2 ^ 52) (-48) := by decide +kernel
theorem read_ZERO : double.read 0 = .number false 0 (-1074) := by decide +kernel

/-- 2 ^ 1074, hidden. -/
def TT : Nat := 2 ^ E74
theorem TT_pos : 0 < TT := Nat.two_pow_pos _
theorem vn_pow (j : Nat) : vn (2 ^ 52) ((j : Int) - 52) = 2 ^ j * TT := by
  have hE := E74_eq
  unfold vn TT
  rw [← Nat.pow_add, ← Nat.pow_add]
  congr 1
  omega
theorem vn_UNIT : vn (2 ^ 52) (-52) = TT := by have := vn_pow 0; simpa using this
theorem vn_MAX : vn (2 ^ 52) (-32) = 1048576 * TT := by rw [show (-32 : Int) = ((20 : Nat) : Int) - 52 by omega, vn_pow, show (2 : Nat) ^ 20 = 1048576 by decide]
theorem vn_SIXT : vn (2 ^ 52) (-48) = 16 * TT := by rw [show (-48 : Int) = ((4 : Nat) : Int) - 52 by omega, vn_pow, show (2 : Nat) ^ 4 = 16 by decide]
theorem toInt_numT {x : Nat} {s : Bool} {m : Nat} {i : Int} (hx : double.read x = .number s m i) (hi : -1074 ≤ i) : (double.read x).toInt .zero = some (if s then -((vn m i / TT : Nat) : Int) else (vn m i / TT : Nat)) := toInt_num hx hi

theorem TT_eq : TT = 2 ^ E74 := rfl
attribute [irreducible] TT

def fmin2 (x y : Nat) : Option Nat := match double.order x y with | none => none | some .lt => some x | some .gt => some y | some .eq => some (if (double.read x).neg then x else y)
def fmax2 (x y : Nat) : Option Nat := match double.order x y with | none => none | some .lt => some y | some .gt => some x | some .eq => some (if (double.read x).neg then y else x)

def wt (x : Nat) : Int := match double.read x with
  | .nan .. => 65536
  | .infinity s => if s then 1 else 1048576
  | .number s m i => if s then 1 else max 1 (min 1048576 ((vn m i * 65536 / TT : Nat) : Int))

theorem toIntVal_of {x : Nat} {n : Int} (h : (double.read x).toInt .zero = some n) (h0 : 1 ≤ n) (h1 : n ≤ 1048576) : floatToIntVal .f64 x .i64 = some n := by
  have hd : FloatKind.f64.decode x = double.read x := rfl
  unfold floatToIntVal
  rw [hd, h]
  have hm : IntKind.i64.min = -9223372036854775808 := by decide
  have hM : IntKind.i64.max = 9223372036854775807 := by decide
  simp only [hm, hM]
  rw [if_pos ⟨by omega, by omega⟩]

theorem clip_neg {r : Nat} (h1 : double.order r cMAX = some .lt) (h2 : double.order r cUNIT = some .lt) : ∃ t u, fmin2 r cMAX = some t ∧ fmax2 t cUNIT = some u ∧ floatToIntVal .f64 u .i64 = some 1 := by
  refine ⟨r, cUNIT, by unfold fmin2; rw [h1], by unfold fmax2; rw [h2], toIntVal_of ?_ (by omega) (by omega)⟩
  rw [toInt_numT read_UNIT (by omega), vn_UNIT, Nat.div_self TT_pos]; rfl

theorem max_unit : double.order cMAX cUNIT = some .gt := by decide +kernel
theorem toInt_MAX : (double.read cMAX).toInt .zero = some 1048576 := by
  rw [toInt_numT read_MAX (by omega), vn_MAX, Nat.mul_div_cancel _ TT_pos]; rfl
theorem toInt_UNIT : (double.read cUNIT).toInt .zero = some 1 := by
  rw [toInt_numT read_UNIT (by omega), vn_UNIT, Nat.div_self TT_pos]; rfl

theorem clip_pos {r K : Nat} {L : Int} (hr : double.read r = .number false K L) (hL : -1074 ≤ L) : ∃ t u, fmin2 r cMAX = some t ∧ fmax2 t cUNIT = some u ∧ floatToIntVal .f64 u .i64 = some (max 1 (min 1048576 ((vn K L / TT : Nat) : Int))) := by
  have hT := TT_pos
  have o1 := order_num hr read_MAX hL (by omega)
  have o2 := order_num hr read_UNIT hL (by omega)
  simp only [sv, Bool.false_eq_true, if_false, vn_MAX, vn_UNIT] at o1 o2
  by_cases h : vn K L < 1048576 * TT
  · rw [Int.compare_eq_lt.2 (by exact_mod_cast h)] at o1
    have ht : fmin2 r cMAX = some r := by unfold fmin2; rw [o1]
    by_cases h' : vn K L < TT
    · rw [Int.compare_eq_lt.2 (by exact_mod_cast h')] at o2
      refine ⟨r, cUNIT, ht, by unfold fmax2; rw [o2], toIntVal_of ?_ (by omega) (by omega)⟩
      rw [toInt_UNIT, Nat.div_eq_of_lt h']
      rfl
    · have hd : 1 ≤ vn K L / TT := (Nat.le_div_iff_mul_le hT).2 (by omega)
      have hd' : vn K L / TT < 1048576 := (Nat.div_lt_iff_lt_mul hT).2 h
      have hm : fmax2 r cUNIT = some r := by
        unfold fmax2
        by_cases he : vn K L = TT
        · rw [Int.compare_eq_eq.2 (by exact_mod_cast he)] at o2; rw [o2]; simp [hr, Datum.neg]
        · rw [Int.compare_eq_gt.2 (by exact_mod_cast (by omega : TT < vn K L))] at o2; rw [o2]
      refine ⟨r, r, ht, hm, toIntVal_of ?_ (by omega) (by omega)⟩
      rw [toInt_numT hr hL]
      simp only [Bool.false_eq_true, if_false]
      congr 1
      omega
  · have hd : 1048576 ≤ vn K L / TT := (Nat.le_div_iff_mul_le hT).2 (by omega)
    have ht : fmin2 r cMAX = some cMAX := by
      unfold fmin2
      by_cases he : vn K L = 1048576 * TT
      · rw [Int.compare_eq_eq.2 (by exact_mod_cast he)] at o1; rw [o1]; simp [hr, Datum.neg]
      · rw [Int.compare_eq_gt.2 (by exact_mod_cast (by omega : 1048576 * TT < vn K L))] at o1; rw [o1]
    refine ⟨cMAX, cMAX, ht, by unfold fmax2; rw [max_unit], toIntVal_of ?_ (by omega) (by omega)⟩
    rw [toInt_MAX]
    congr 1
    omega

theorem order_inf_num {x y : Nat} {s t : Bool} {n : Nat} {j : Int} (hx : double.read x = .infinity s) (hy : double.read y = .number t n j) : double.order x y = some (if s then .lt else .gt) := by
  unfold Format.order; rw [hx, hy]; rfl

theorem clip_inf {r : Nat} (hr : double.read r = .infinity false) : ∃ t u, fmin2 r cMAX = some t ∧ fmax2 t cUNIT = some u ∧ floatToIntVal .f64 u .i64 = some 1048576 :=
  ⟨cMAX, cMAX, by unfold fmin2; rw [order_inf_num hr read_MAX]; rfl, by unfold fmax2; rw [max_unit], toIntVal_of toInt_MAX (by omega) (by omega)⟩
theorem clip_ninf {r : Nat} (hr : double.read r = .infinity true) : ∃ t u, fmin2 r cMAX = some t ∧ fmax2 t cUNIT = some u ∧ floatToIntVal .f64 u .i64 = some 1 :=
  clip_neg (by rw [order_inf_num hr read_MAX]; rfl) (by rw [order_inf_num hr read_UNIT]; rfl)
theorem clip_true {r K : Nat} {L : Int} (hr : double.read r = .number true K L) (hL : -1074 ≤ L) : ∃ t u, fmin2 r cMAX = some t ∧ fmax2 t cUNIT = some u ∧ floatToIntVal .f64 u .i64 = some 1 := by
  have hT := TT_pos
  refine clip_neg ?_ ?_
  · rw [order_num hr read_MAX hL (by omega)]
    simp only [sv, Bool.false_eq_true, if_false, if_true, vn_MAX]
    rw [Int.compare_eq_lt.2 (by omega)]
  · rw [order_num hr read_UNIT hL (by omega)]
    simp only [sv, Bool.false_eq_true, if_false, if_true, vn_UNIT]
    rw [Int.compare_eq_lt.2 (by omega)]

theorem overflow (s : Bool) (m : Nat) (i : Int) (hm : 2 ^ 52 ≤ m) (hm' : m < 2 ^ 53) (hi : 956 ≤ i) : double.nearest s (m * 2 ^ 52) (i + -36) = double.word s double.infRung := by
  have hb : double.binade = 2 ^ 52 := by decide
  have hif : double.infRung = 2047 * 2 ^ 52 := by decide
  have hl : double.leastPlace = -1074 := by decide
  have hfb : double.fractionBits = 52 := rfl
  have hm0 : m ≠ 0 := by omega
  have hlm : m.log2 = 52 := by
    have h1 : m.log2 < 53 := (Nat.log2_lt hm0).2 hm'
    have h2 : 52 ≤ m.log2 := (Nat.le_log2 hm0).2 hm
    omega
  unfold Format.nearest
  rw [if_neg (by omega)]
  simp only [hb, hif, hl, hfb, log2_shift m 52 hm0, hlm]
  have e1 : max (i + -36 + ((52 + 52 : Nat) : Int) - (52 : Nat)) (-1074) = i + 16 := by omega
  have e2 : (i + 16 - (i + -36)).toNat = 52 := by omega
  have e3 : (i + -36 - (i + 16)).toNat = 0 := by omega
  rw [e1, e2, e3, Nat.shiftLeft_zero, cut_even _ _ _ hm0, Nat.min_eq_right]
  omega

theorem weight_fl (x : Nat) (h : (double.read x).isNaN = false) : ∃ r t u, double.mul x cONE = some r ∧ fmin2 r cMAX = some t ∧ fmax2 t cUNIT = some u ∧ floatToIntVal .f64 u .i64 = some (wt x) := by
  unfold Format.mul wt
  rw [read_ONE]
  rcases read_is x with ⟨s, t, hx⟩ | ⟨s, hx⟩ | ⟨s, m, i, hx, hm, hi, hi', hn⟩
  · rw [hx] at h; cases h
  · rw [hx]
    simp only [Datum.product, Nat.pow_eq_zero, Option.map]
    rw [if_neg (by decide)]
    cases s
    · obtain ⟨t, u, h1, h2, h3⟩ := clip_inf (read_inf false)
      exact ⟨_, t, u, rfl, h1, h2, h3⟩
    · obtain ⟨t, u, h1, h2, h3⟩ := clip_ninf (read_inf true)
      exact ⟨_, t, u, rfl, h1, h2, h3⟩
  · rw [hx]
    simp only [Datum.product, Option.map, Format.write, Bool.xor_false]
    by_cases hm0 : m = 0
    · subst hm0
      have hr : double.read (double.nearest s (0 * 2 ^ 52) (i + -36)) = .number s 0 (-1074) := by
        rw [Nat.zero_mul]; unfold Format.nearest; rw [if_pos rfl]; cases s <;> decide +kernel
      cases s
      · obtain ⟨t, u, h1, h2, h3⟩ := clip_pos hr (by omega)
        refine ⟨_, t, u, rfl, h1, h2, ?_⟩
        rw [h3]; simp [vn]
      · obtain ⟨t, u, h1, h2, h3⟩ := clip_true hr (by omega)
        exact ⟨_, t, u, rfl, h1, h2, h3⟩
    · by_cases ho : (m.log2 : Int) + i + 16 ≤ 1023
      · obtain ⟨K, L, hr, hK, hL, hL', hv, hK0⟩ := written s (m * 2 ^ 52) (i + -36) m 52 hm0 hm rfl (by omega) (by omega)
        have hv' : vn K L = vn m i * 65536 := by
          rw [hv, show i + -36 + ((52 : Nat) : Int) = i + ((16 : Nat) : Int) by omega, vn_up _ _ _ hi]
        cases s
        · obtain ⟨t, u, h1, h2, h3⟩ := clip_pos hr hL
          refine ⟨_, t, u, rfl, h1, h2, ?_⟩
          rw [h3, hv']; rfl
        · obtain ⟨t, u, h1, h2, h3⟩ := clip_true hr hL
          exact ⟨_, t, u, rfl, h1, h2, h3⟩
      · have hlm : m.log2 < 53 := (Nat.log2_lt hm0).2 hm
        have hm2 : 2 ^ 52 ≤ m := by rcases hn with h | h <;> omega
        have hr := read_inf s
        rw [← overflow s m i hm2 hm (by omega)] at hr
        have hbig : 2 ^ 20 * TT ≤ vn m i * 65536 := by
          have h1 := vn_ge m i 52 hm2
          have h2 : (2 : Nat) ^ (E74 + 4) ≤ 2 ^ (52 + (i + 1074).toNat) := Nat.pow_le_pow_right (by omega) (by have := E74_eq; omega)
          have h3 : (2 : Nat) ^ (E74 + 4) = TT * 16 := by rw [TT_eq, Nat.pow_add, show (2 : Nat) ^ 4 = 16 by decide]
          omega
        cases s
        · obtain ⟨t, u, h1, h2, h3⟩ := clip_inf hr
          refine ⟨_, t, u, rfl, h1, h2, ?_⟩
          rw [h3]
          have : 1048576 ≤ vn m i * 65536 / TT := (Nat.le_div_iff_mul_le TT_pos).2 (by omega)
          simp only [Bool.false_eq_true, if_false]
          congr 1
          omega
        · obtain ⟨t, u, h1, h2, h3⟩ := clip_ninf hr
          exact ⟨_, t, u, rfl, h1, h2, h3⟩

/-! ### Numbers on the grid: whole multiples of 2 ^ -16 -/
def GV (x : Nat) (a : Int) : Prop := ∃ s K L, double.read x = .number s K L ∧ K < 2 ^ 53 ∧ -1074 ≤ L ∧ L ≤ 971 ∧ sv s K L * 65536 = a * TT

theorem GV.weight {x : Nat} {a : Int} (h : GV x a) : wt x = max 1 (min 1048576 a) := by
  obtain ⟨s, K, L, hx, hK, hL, hL', hv⟩ := h
  have hT := TT_pos
  have hT' : (0 : Int) < TT := by exact_mod_cast hT
  unfold wt
  rw [hx]
  cases s
  · simp only [sv, Bool.false_eq_true, if_false] at hv ⊢
    have ha : 0 ≤ a := by
      refine Int.not_lt.1 fun h => ?_
      have := Int.mul_neg_of_neg_of_pos h hT'
      omega
    have h1 : vn K L * 65536 = a.toNat * TT := by
      have : ((vn K L * 65536 : Nat) : Int) = ((a.toNat * TT : Nat) : Int) := by
        rw [Int.natCast_mul, Int.natCast_mul, Int.toNat_of_nonneg ha]; exact hv
      exact_mod_cast this
    rw [h1, Nat.mul_div_cancel _ hT]
    congr 2
    omega
  · simp only [sv, if_true] at hv ⊢
    have ha : a ≤ 0 := by
      refine Int.not_lt.1 fun h => ?_
      have := Int.mul_pos h hT'
      omega
    omega

theorem GV.notNaN {x : Nat} {a : Int} (h : GV x a) : (double.read x).isNaN = false := by
  obtain ⟨s, K, L, hx, _⟩ := h
  rw [hx]; rfl

theorem sv_mul (s : Bool) (m : Nat) (i : Int) (k : Int) : sv s m i * k = if s then -((vn m i : Int) * k) else (vn m i : Int) * k := by
  cases s <;> simp [sv, Int.neg_mul]

theorem castT {v n : Nat} (h : v * 65536 = n * TT) : (v : Int) * 65536 = (n : Int) * TT := by
  have := congrArg (fun z : Nat => (z : Int)) h
  simp only [Int.natCast_mul] at this
  exact this

theorem sv_zero (s : Bool) (i : Int) : sv s 0 i = 0 := by
  have h : vn 0 i = 0 := Nat.zero_mul _
  unfold sv; rw [h]; cases s <;> rfl

/-- float64(n) / One. -/
theorem quot_fl (n : Int) (h : n.natAbs ≤ 1048576) : ∃ r, double.div (floatOfInt .f64 n) cONE = some r ∧ GV r n := by
  have hfo : floatOfInt .f64 n = double.nearest (n < 0) n.natAbs 0 := rfl
  rw [hfo]
  unfold Format.div
  rw [read_ONE]
  by_cases h0 : n = 0
  · subst h0
    refine ⟨0, by decide +kernel, false, 0, -1074, read_ZERO, by omega, by omega, by omega, ?_⟩
    rw [sv_zero, Int.zero_mul, Int.zero_mul]
  · have hn0 : n.natAbs ≠ 0 := by omega
    have hlog : n.natAbs.log2 < 53 := (Nat.log2_lt hn0).2 (by omega)
    obtain ⟨K, L, hr, hK, hL, hL', hv, hK0⟩ := written (decide (n < 0)) n.natAbs 0 n.natAbs 0 hn0 (by omega) (by simp) (by omega) (by omega)
    rw [hr]
    have hlK : K.log2 < 53 := (Nat.log2_lt hK0).2 hK
    obtain ⟨c, hc⟩ : ∃ c, 52 + 2 + (2 ^ 52 : Nat).log2 - K.log2 = 52 + c ∧ c + K.log2 = 54 := ⟨54 - K.log2, by rw [show (2 ^ 52 : Nat).log2 = 52 by decide +kernel]; omega⟩
    have hd : (K <<< (52 + c)) % 2 ^ 52 = 0 := by rw [Nat.shiftLeft_eq, Nat.pow_add, Nat.mul_comm (2 ^ 52), ← Nat.mul_assoc]; exact Nat.mul_mod_left ..
    have hq : (K <<< (52 + c)) / 2 ^ 52 = K * 2 ^ c := by rw [Nat.shiftLeft_eq, Nat.pow_add, Nat.mul_comm (2 ^ 52), ← Nat.mul_assoc]; exact Nat.mul_div_cancel _ (by decide)
    simp only [Datum.quotient, show double.fractionBits = 52 from rfl, hc.1, hd, hq]
    rw [if_neg (by decide)]
    simp only [Option.map, Format.write, Bool.xor_false]
    have hlogv : (K.log2 : Int) + L = n.natAbs.log2 := by
      have hh := congrArg Nat.log2 hv
      unfold vn at hh
      rw [log2_shift _ _ hK0, log2_shift _ _ hn0] at hh
      omega
    obtain ⟨K2, L2, hr2, hK2, hL2, hL2', hv2, _⟩ := written (decide (n < 0)) (2 * (K * 2 ^ c) + ((0 : Nat) != 0).toNat) (L - -36 - (52 + c : Nat) - 1) K (c + 1) hK0 hK
      (by rw [Nat.pow_succ]; simp; rw [Nat.mul_comm, Nat.mul_assoc]) (by omega) (by omega)
    refine ⟨_, rfl, decide (n < 0), K2, L2, hr2, hK2, hL2, hL2', ?_⟩
    have e1 : L - -36 - ((52 + c : Nat) : Int) - 1 + ((c + 1 : Nat) : Int) = L - 16 := by omega
    rw [e1] at hv2
    have e2 : vn K L = vn K2 L2 * 65536 := by
      rw [hv2]
      have := vn_up K (L - 16) 16 (by omega)
      rw [show L - 16 + ((16 : Nat) : Int) = L by omega] at this
      rw [this]
    have e3 : vn n.natAbs (0 + ((0 : Nat) : Int)) = n.natAbs * TT := by unfold vn; rw [TT_eq, show (0 + ((0 : Nat) : Int) + 1074).toNat = E74 by have := E74_eq; omega]
    rw [sv_mul]
    have e4 : (vn K2 L2 : Int) * 65536 = (n.natAbs : Int) * TT := by
      have : vn K2 L2 * 65536 = n.natAbs * TT := by rw [← e2, hv, e3]
      exact castT this
    rw [e4]
    by_cases hneg : n < 0
    · rw [decide_eq_true hneg, if_pos rfl, ← Int.neg_mul, show -(n.natAbs : Int) = n by omega]
    · rw [decide_eq_false hneg, if_neg (by decide), show (n.natAbs : Int) = n by omega]

theorem sv_neg (s : Bool) (m : Nat) (i : Int) : sv (!s) m i = - sv s m i := by cases s <;> simp [sv]

/-- A sum of two of the grid is of the grid. -/
theorem sum_grid {s t : Bool} {m n : Nat} {i j : Int} {a b : Int} (hi : -1074 ≤ i) (hj : -1074 ≤ j) (hi' : i ≤ 971) (hj' : j ≤ 971) (ha : sv s m i * 65536 = a * TT) (hb : sv t n j * 65536 = b * TT) (hab : (a + b).natAbs < 2 ^ 40) :
    ∃ r, ((Datum.number s m i).sum (.number t n j)).map double.write = some r ∧ GV r (a + b) := by
  simp only [Datum.sum, Option.map, Format.write]
  refine ⟨_, rfl, ?_⟩
  have hB : -1074 ≤ min i j := by omega
  have e : (signed s m (i - min i j).toNat + signed t n (j - min i j).toNat) * ((2 ^ (min i j + 1074).toNat : Nat) : Int) * 65536 = (a + b) * TT := by
    rw [Int.add_mul, Int.add_mul, signed_sv _ _ _ _ hB (by omega), signed_sv _ _ _ _ hB (by omega), ha, hb, ← Int.add_mul]
  generalize signed s m (i - min i j).toNat + signed t n (j - min i j).toNat = tot at e ⊢
  generalize hBd : min i j = B at hB e ⊢
  have hB' : B ≤ 971 := by omega
  have hT' : (0 : Int) < TT := by exact_mod_cast TT_pos
  have hP : (0 : Int) < ((2 ^ (B + 1074).toNat : Nat) : Int) := by have := Nat.two_pow_pos (B + 1074).toNat; omega
  by_cases h0 : tot = 0
  · subst h0
    have hab0 : a + b = 0 := by
      rw [Int.zero_mul, Int.zero_mul] at e
      rcases Int.mul_eq_zero.1 e.symm with h | h
      · exact h
      · omega
    rw [hab0]
    refine ⟨(s && t), 0, -1074, ?_, by omega, by omega, by omega, by rw [sv_zero, Int.zero_mul, Int.zero_mul]⟩
    rw [if_pos rfl]
    have : double.nearest (s && t) (Int.natAbs 0) B = double.word (s && t) 0 := by unfold Format.nearest; rw [if_pos (by rfl)]
    rw [this]
    cases (s && t) <;> decide +kernel
  · rw [if_neg h0]
    have hn0 : tot.natAbs ≠ 0 := by omega
    -- the sizes
    have e' : tot.natAbs * 2 ^ (B + 1074).toNat * 65536 = (a + b).natAbs * TT := by
      have := congrArg Int.natAbs e
      rw [Int.natAbs_mul, Int.natAbs_mul, Int.natAbs_mul, Int.natAbs_natCast, Int.natAbs_natCast] at this
      exact this
    have hsg : decide (tot < 0) = decide (a + b < 0) := by
      have : tot < 0 ↔ a + b < 0 := by
        constructor
        · intro h
          refine Int.not_le.1 fun h' => ?_
          have h1 := Int.mul_nonneg h' (Int.le_of_lt hT')
          have h2 := Int.mul_neg_of_neg_of_pos h hP
          omega
        · intro h
          refine Int.not_le.1 fun h' => ?_
          have h1 := Int.mul_neg_of_neg_of_pos h hT'
          have h2 := Int.mul_nonneg h' (Int.le_of_lt hP)
          omega
      rw [decide_eq_decide]; exact this
    have hab0 : (a + b).natAbs ≠ 0 := by
      intro h
      rw [h, Nat.zero_mul] at e'
      have := Nat.two_pow_pos (B + 1074).toNat
      have h3 : tot.natAbs * 2 ^ (B + 1074).toNat ≠ 0 := Nat.mul_ne_zero hn0 (by omega)
      omega
    have hval : ∃ (m : Nat) (k : Nat), m ≠ 0 ∧ m < 2 ^ 53 ∧ tot.natAbs = m * 2 ^ k ∧ -1074 ≤ B + k ∧ (m.log2 : Int) + B + k ≤ 1023 ∧ vn m (B + k) * 65536 = (a + b).natAbs * TT := by
      have hlab : (a + b).natAbs.log2 < 40 := (Nat.log2_lt hab0).2 hab
      by_cases hc : B ≤ -16
      · refine ⟨(a + b).natAbs, (-16 - B).toNat, hab0, by omega, ?_, by omega, by omega, ?_⟩
        · have e1 : (B + 1074).toNat + 16 + (-16 - B).toNat = E74 := by have := E74_eq; omega
          have e2 : tot.natAbs * 2 ^ (B + 1074).toNat * 2 ^ 16 = (a + b).natAbs * 2 ^ (-16 - B).toNat * (2 ^ (B + 1074).toNat * 2 ^ 16) := by
            rw [show (2 : Nat) ^ 16 = 65536 by decide, e', TT_eq, ← e1, Nat.pow_add, Nat.pow_add, show (2 : Nat) ^ 16 = 65536 by decide]
            ac_rfl
          rw [Nat.mul_assoc] at e2
          exact Nat.eq_of_mul_eq_mul_right (Nat.mul_pos (Nat.two_pow_pos _) (by decide)) e2
        · have e3 : B + ((-16 - B).toNat : Int) = -16 := by omega
          rw [e3]; unfold vn
          rw [Nat.mul_assoc, TT_eq, show (-16 + 1074 : Int).toNat = E74 - 16 by have := E74_eq; omega, show (65536 : Nat) = 2 ^ 16 by decide, ← Nat.pow_add, show E74 - 16 + 16 = E74 by have := E74_eq; omega]
      · refine ⟨tot.natAbs, 0, hn0, ?_, by simp, by omega, ?_, by rw [← e']; unfold vn; simp⟩
        · have hle : tot.natAbs * TT ≤ (a + b).natAbs * TT := by
            rw [← e', Nat.mul_assoc]
            refine Nat.mul_le_mul_left _ ?_
            rw [TT_eq, show (65536 : Nat) = 2 ^ 16 by decide, ← Nat.pow_add]
            exact Nat.pow_le_pow_right (by omega) (by have := E74_eq; omega)
          have := Nat.le_of_mul_le_mul_right hle TT_pos
          omega
        · have hl := congrArg Nat.log2 e'
          have hE := E74_eq
          rw [show (65536 : Nat) = 2 ^ 16 by decide, TT_eq, log2_shift _ _ (Nat.mul_ne_zero hn0 (by have := Nat.two_pow_pos (B + 1074).toNat; omega)), log2_shift _ _ hn0, log2_shift _ _ hab0] at hl
          omega
    obtain ⟨m, k, hm0, hm, htm, hp, ht, hvv⟩ := hval
    obtain ⟨K, L, hr, hK, hL, hL', hv, hK0⟩ := written (decide (tot < 0)) tot.natAbs B m k hm0 hm htm hp ht
    refine ⟨decide (tot < 0), K, L, hr, hK, hL, hL', ?_⟩
    rw [sv_mul, hsg, hv]
    have e4 : (vn m (B + k) : Int) * 65536 = ((a + b).natAbs : Int) * TT := castT hvv
    rw [e4]
    by_cases hneg : a + b < 0
    · rw [decide_eq_true hneg, if_pos rfl, ← Int.neg_mul, show -((a + b).natAbs : Int) = a + b by omega]
    · rw [decide_eq_false hneg, if_neg (by decide), show ((a + b).natAbs : Int) = a + b by omega]

theorem add_grid {x y : Nat} {a b : Int} (hx : GV x a) (hy : GV y b) (hab : (a + b).natAbs < 2 ^ 40) : ∃ r, double.add x y = some r ∧ GV r (a + b) := by
  obtain ⟨s, m, i, h1, _, h2, h3, h4⟩ := hx
  obtain ⟨t, n, j, g1, _, g2, g3, g4⟩ := hy
  unfold Format.add
  rw [h1, g1]
  exact sum_grid h2 g2 h3 g3 h4 g4 hab
theorem sub_grid {x y : Nat} {a b : Int} (hx : GV x a) (hy : GV y b) (hab : (a - b).natAbs < 2 ^ 40) : ∃ r, double.sub x y = some r ∧ GV r (a - b) := by
  obtain ⟨s, m, i, h1, _, h2, h3, h4⟩ := hx
  obtain ⟨t, n, j, g1, _, g2, g3, g4⟩ := hy
  unfold Format.sub
  rw [h1, g1]
  exact sum_grid (t := !t) h2 g2 h3 g3 h4 (by rw [sv_neg, Int.neg_mul, g4, Int.neg_mul]) hab
theorem GV.zero : GV 0 0 := ⟨false, 0, -1074, read_ZERO, by omega, by omega, by omega, by rw [sv_zero, Int.zero_mul, Int.zero_mul]⟩

/-! ### Comparisons -/
theorem order_self (x : Nat) : (double.order x x != some .eq) = (double.read x).isNaN := by
  unfold Format.order
  rcases read_is x with ⟨s, t, hx⟩ | ⟨s, hx⟩ | ⟨s, m, i, hx, _⟩
  · rw [hx]; rfl
  · rw [hx]; cases s <;> rfl
  · rw [hx]; simp only [Datum.order, Datum.isNaN]
    rw [Int.compare_eq_eq.2 rfl]; rfl

theorem order_num_inf {x y : Nat} {s t : Bool} {n : Nat} {j : Int} (hx : double.read x = .number t n j) (hy : double.read y = .infinity s) : double.order x y = some (if s then .gt else .lt) := by
  unfold Format.order; rw [hx, hy]; rfl
theorem order_inf_inf {x y : Nat} {s t : Bool} (hx : double.read x = .infinity s) (hy : double.read y = .infinity t) : double.order x y = some (compare t.toNat s.toNat) := by
  unfold Format.order; rw [hx, hy]; rfl
theorem order_nan_l {x y : Nat} (hx : (double.read x).isNaN = true) : double.order x y = none := by
  unfold Format.order; cases h : double.read x <;> simp_all [Datum.isNaN, Datum.order]
theorem order_nan_r {x y : Nat} (hy : (double.read y).isNaN = true) : double.order x y = none := by
  unfold Format.order; cases h : double.read y <;> cases h2 : double.read x <;> simp_all [Datum.isNaN, Datum.order]

/-- 'x <= y' of two numbers. -/
theorem le_num {x y : Nat} {s t : Bool} {m n : Nat} {i j : Int} (hx : double.read x = .number s m i) (hy : double.read y = .number t n j) (hi : -1074 ≤ i) (hj : -1074 ≤ j) :
    (double.order x y == some .lt || double.order x y == some .eq) = decide (sv s m i ≤ sv t n j) := by
  rw [order_num hx hy hi hj]
  rcases Int.lt_trichotomy (sv s m i) (sv t n j) with h | h | h
  · rw [Int.compare_eq_lt.2 h, decide_eq_true (by omega)]; rfl
  · rw [Int.compare_eq_eq.2 h, decide_eq_true (by omega)]; rfl
  · rw [Int.compare_eq_gt.2 h, decide_eq_false (by omega)]; rfl
theorem ge_num {x y : Nat} {s t : Bool} {m n : Nat} {i j : Int} (hx : double.read x = .number s m i) (hy : double.read y = .number t n j) (hi : -1074 ≤ i) (hj : -1074 ≤ j) :
    (double.order x y == some .gt || double.order x y == some .eq) = decide (sv t n j ≤ sv s m i) := by
  rw [order_num hx hy hi hj]
  rcases Int.lt_trichotomy (sv s m i) (sv t n j) with h | h | h
  · rw [Int.compare_eq_lt.2 h, decide_eq_false (by omega)]; rfl
  · rw [Int.compare_eq_eq.2 h, decide_eq_true (by omega)]; rfl
  · rw [Int.compare_eq_gt.2 h, decide_eq_true (by omega)]; rfl

theorem wt_nan {x : Nat} (h : (double.read x).isNaN = true) : wt x = 65536 := by
  unfold wt; cases hx : double.read x <;> simp_all [Datum.isNaN]
theorem wt_bounds (x : Nat) : 1 ≤ wt x ∧ wt x ≤ 1048576 := by
  unfold wt
  cases double.read x with
  | nan s t => simp
  | infinity s => cases s <;> simp
  | number s m i =>
    cases s
    · simp only [Bool.false_eq_true, if_false]
      generalize ((vn m i * 65536 / TT : Nat) : Int) = q
      omega
    · simp

theorem wt_ge16 {x : Nat} (h : (double.order x cSIXT == some .gt || double.order x cSIXT == some .eq) = true) : wt x = 1048576 := by
  rcases read_is x with ⟨s, t, hx⟩ | ⟨s, hx⟩ | ⟨s, m, i, hx, hm, hi, _⟩
  · rw [order_nan_l (by rw [hx]; rfl)] at h; cases h
  · rw [order_inf_num hx read_SIXT] at h
    unfold wt; rw [hx]
    cases s
    · rfl
    · cases h
  · rw [ge_num hx read_SIXT hi (by omega)] at h
    have h := of_decide_eq_true h
    have hT := TT_pos
    simp only [sv, Bool.false_eq_true, if_false, vn_SIXT] at h
    unfold wt; rw [hx]
    cases s
    · simp only [Bool.false_eq_true, if_false] at h ⊢
      have : 1048576 ≤ vn m i * 65536 / TT := (Nat.le_div_iff_mul_le hT).2 (by omega)
      omega
    · simp only [if_true] at h
      omega

theorem wt_le0 {x : Nat} (h : (double.order x 0 == some .lt || double.order x 0 == some .eq) = true) : wt x = 1 := by
  rcases read_is x with ⟨s, t, hx⟩ | ⟨s, hx⟩ | ⟨s, m, i, hx, hm, hi, _⟩
  · rw [order_nan_l (by rw [hx]; rfl)] at h; cases h
  · rw [order_inf_num hx read_ZERO] at h
    unfold wt; rw [hx]
    cases s
    · cases h
    · rfl
  · rw [le_num hx read_ZERO hi (by omega), sv_zero] at h
    have h := of_decide_eq_true h
    unfold wt; rw [hx]
    cases s
    · simp only [sv, Bool.false_eq_true, if_false] at h ⊢
      have : vn m i = 0 := by omega
      rw [this, Nat.zero_mul, Nat.zero_div]; rfl
    · rfl

theorem between {x : Nat} (hn : (double.read x).isNaN = false) (h1 : (double.order x cSIXT == some .gt || double.order x cSIXT == some .eq) = false) (h2 : (double.order x 0 == some .lt || double.order x 0 == some .eq) = false) :
    ∃ K L, double.read x = .number false K L ∧ -1074 ≤ L ∧ 0 < vn K L ∧ vn K L < 16 * TT := by
  rcases read_is x with ⟨s, t, hx⟩ | ⟨s, hx⟩ | ⟨s, m, i, hx, hm, hi, _⟩
  · rw [hx] at hn; cases hn
  · rw [order_inf_num hx read_SIXT] at h1
    rw [order_inf_num hx read_ZERO] at h2
    cases s
    · cases h1
    · cases h2
  · rw [ge_num hx read_SIXT hi (by omega)] at h1
    rw [le_num hx read_ZERO hi (by omega), sv_zero] at h2
    have h1 := of_decide_eq_false h1
    have h2 := of_decide_eq_false h2
    simp only [sv, Bool.false_eq_true, if_false, vn_SIXT] at h1
    simp only [sv] at h2
    cases s
    · simp only [Bool.false_eq_true, if_false] at h1 h2
      exact ⟨m, i, hx, hi, by omega, by omega⟩
    · simp only [if_true] at h1 h2
      omega

/-- 'q <= x' of a number of the grid. -/
theorem le_grid {q x : Nat} {a K : Nat} {L : Int} (hq : GV q a) (hx : double.read x = .number false K L) (hL : -1074 ≤ L) :
    (double.order q x == some .lt || double.order q x == some .eq) = decide (a * TT ≤ vn K L * 65536) := by
  obtain ⟨s, M, J, h1, _, h2, _, h4⟩ := hq
  rw [le_num h1 hx h2 hL, decide_eq_decide]
  simp only [sv, Bool.false_eq_true, if_false] at *
  have e : ((a * TT : Nat) : Int) = (a : Int) * TT := Int.natCast_mul ..
  constructor <;> intro h <;> omega

theorem wt_mono {x y : Nat} (h : (double.order x y == some .lt || double.order x y == some .eq) = true) : wt x ≤ wt y := by
  have hT := TT_pos
  rcases read_is x with ⟨s, t, hx⟩ | ⟨s, hx⟩ | ⟨s, m, i, hx, hm, hi, _⟩
  · rw [order_nan_l (by rw [hx]; rfl)] at h; cases h
  · cases s
    · rcases read_is y with ⟨t, u, hy⟩ | ⟨t, hy⟩ | ⟨t, n, j, hy, hn, hj, _⟩
      · rw [order_nan_r (by rw [hy]; rfl)] at h; cases h
      · rw [order_inf_inf hx hy] at h
        cases t
        · unfold wt; rw [hx, hy]; simp
        · exact absurd h (by decide)
      · rw [order_inf_num hx hy] at h; cases h
    · have : wt x = 1 := by unfold wt; rw [hx]; rfl
      rw [this]; exact (wt_bounds y).1
  · rcases read_is y with ⟨t, u, hy⟩ | ⟨t, hy⟩ | ⟨t, n, j, hy, hn, hj, _⟩
    · rw [order_nan_r (by rw [hy]; rfl)] at h; cases h
    · rw [order_num_inf hx hy] at h
      cases t
      · have : wt y = 1048576 := by unfold wt; rw [hy]; rfl
        rw [this]; exact (wt_bounds x).2
      · cases h
    · rw [le_num hx hy hi hj] at h
      have h := of_decide_eq_true h
      cases s
      · cases t
        · simp only [sv, Bool.false_eq_true, if_false] at h
          have h' : vn m i * 65536 / TT ≤ vn n j * 65536 / TT := Nat.div_le_div_right (by omega)
          unfold wt; rw [hx, hy]
          simp only [Bool.false_eq_true, if_false]
          omega
        · simp only [sv, Bool.false_eq_true, if_false, if_true] at h
          have h0 : vn m i = 0 := by omega
          have : wt x = 1 := by unfold wt; rw [hx]; simp only [Bool.false_eq_true, if_false]; rw [h0, Nat.zero_mul, Nat.zero_div]; rfl
          rw [this]; exact (wt_bounds y).1
      · have : wt x = 1 := by unfold wt; rw [hx]; rfl
        rw [this]; exact (wt_bounds y).1
end Go.Proofs.Ytbbmfpdlkogkfaa
end
section
namespace Go.Proofs.Ytbbmfpdlkogkfaa
open Go.RowKit Ieee

theorem isnan_c (x : Nat) (w : World) :
    Calls Try.prog 114 #[.float .f64 x] w fun e w' => e = .returned (.bool (double.read x).isNaN) ∧ w = w' := by
  rw [← order_self]
  go_enter Try.func114, Try.ntmps114
  go_wp2
  all_goals (go_ret; exact ⟨rfl, rfl⟩)

theorem min_run {P : Program} (ats : Array TypeId) (ty : TypeId) (x y r : Nat) (w : World) (h : fmin2 x y = some r) : (Builtin.min_ ats ty #[.float .f64 x, .float .f64 y]).run P w = .ok (.float .f64 r) w := by
  have hd : FloatKind.f64.decode x = double.read x := rfl
  have hf : FloatKind.f64.format = double := rfl
  unfold fmin2 at h
  simp only [Builtin.min_, List.foldlM, Builtin.min2, hd, hf]
  cases ho : double.order x y with
  | none => rw [ho] at h; cases h
  | some o => rw [ho] at h; cases o <;> simp only at h <;> cases h <;> rfl
theorem max_run {P : Program} (ats : Array TypeId) (ty : TypeId) (x y r : Nat) (w : World) (h : fmax2 x y = some r) : (Builtin.max_ ats ty #[.float .f64 x, .float .f64 y]).run P w = .ok (.float .f64 r) w := by
  have hd : FloatKind.f64.decode x = double.read x := rfl
  have hf : FloatKind.f64.format = double := rfl
  unfold fmax2 at h
  simp only [Builtin.max_, List.foldlM, Builtin.max2, hd, hf]
  cases ho : double.order x y with
  | none => rw [ho] at h; cases h
  | some o => rw [ho] at h; cases o <;> simp only at h <;> cases h <;> rfl

theorem weight_c (x : Nat) (w : World) :
    Calls Try.prog 115 #[.float .f64 x] w fun e w' => e = .returned (.int .i64 (wt x)) ∧ w = w' := by
  cases hn : (double.read x).isNaN
  · obtain ⟨r, t, u, h1, h2, h3, h4⟩ := weight_fl x hn
    have hmul : ∀ w, (binOp .mul 48 (.float .f64 x) (.float .f64 4679240012837945344)).run Try.prog w = .ok (.float .f64 r) w := fun w => run_float_arith w .mul _ .f64 x _ r h1
    have hmin : ∀ ats ty w, (Builtin.min_ ats ty #[.float .f64 r, .float .f64 4697254411347427328]).run Try.prog w = .ok (.float .f64 t) w := fun ats ty w => min_run ats ty r _ t w h2
    have hmax : ∀ ats ty w, (Builtin.max_ ats ty #[.float .f64 t, .float .f64 4607182418800017408]).run Try.prog w = .ok (.float .f64 u) w := fun ats ty w => max_run ats ty t _ u w h3
    have hint : ∀ w, (convert 48 3 (.float .f64 u)).run Try.prog w = .ok (.int .i64 (wt x)) w := fun w => run_convert_float_int w _ _ .f64 .i64 u _ (by rw [Try.underlying48]; rfl) Try.underlying3 h4
    go_enter Try.func115, Try.ntmps115
    go_wp2_with (go_at_call 114; refine (isnan_c _ _).mono ?_; rintro e w1 ⟨rfl, rfl⟩; rw [hn])
    all_goals (go_ret; exact ⟨rfl, rfl⟩)
  · rw [wt_nan hn]
    go_enter Try.func115, Try.ntmps115
    go_wp2_with (go_at_call 114; refine (isnan_c _ _).mono ?_; rintro e w1 ⟨rfl, rfl⟩; rw [hn])
    all_goals (go_ret; exact ⟨rfl, rfl⟩)

/-- The number of a weight. -/
def clipW (n : Int) : Int := max 1 (min 1048576 n)
theorem clipW_bounds (n : Int) : 1 ≤ clipW n ∧ clipW n ≤ 1048576 := by unfold clipW; omega
theorem clipW_id {n : Int} (h : 1 ≤ n) (h' : n ≤ 1048576) : clipW n = n := by unfold clipW; omega
def rt (n : Int) : Nat := (double.div (floatOfInt .f64 (clipW n)) cONE).getD 0
theorem rt_div (n : Int) : double.div (floatOfInt .f64 (clipW n)) cONE = some (rt n) := by
  have := clipW_bounds n
  obtain ⟨r, h, _⟩ := quot_fl (clipW n) (by omega)
  unfold rt; rw [h]; rfl
theorem rt_grid (n : Int) : GV (rt n) (clipW n) := by
  have := clipW_bounds n
  obtain ⟨r, h, g⟩ := quot_fl (clipW n) (by omega)
  unfold rt; rw [h]; exact g
theorem wt_rt (n : Int) : wt (rt n) = clipW n := by
  rw [(rt_grid n).weight]
  have := clipW_bounds n
  omega

theorem ratio_c (n : Int) (w : World) :
    Calls Try.prog 116 #[.int .i64 n] w fun e w' => e = .returned (.float .f64 (rt n)) ∧ w = w' := by
  have h1 : (double.div (floatOfInt .f64 (clipW n)) cONE) = some (rt n) := rt_div n
  have hdiv : ∀ w, (binOp .quo 48 (.float .f64 (floatOfInt .f64 (clipW n))) (.float .f64 4679240012837945344)).run Try.prog w = .ok (.float .f64 (rt n)) w := fun w => run_float_arith w .quo _ .f64 _ _ _ h1
  have hmm : ∀ ats ty w, (Builtin.min_ ats ty #[.int .i64 n, .int .i64 1048576]).run Try.prog w = .ok (.int .i64 (min 1048576 n)) w := by
    intro ats ty w
    have : min 1048576 n = if 1048576 < n then 1048576 else n := by omega
    rw [this]; rfl
  have hmx : ∀ ats ty w, (Builtin.max_ ats ty #[.int .i64 (min 1048576 n), .int .i64 1]).run Try.prog w = .ok (.int .i64 (clipW n)) w := by
    intro ats ty w
    have : clipW n = if 1 > min 1048576 n then 1 else min 1048576 n := by unfold clipW; omega
    rw [this]; rfl
  go_enter Try.func116, Try.ntmps116
  go_wp2
  all_goals (go_ret; exact ⟨rfl, rfl⟩)

theorem rratio_c (n : Int) (w : World) :
    Calls Try.prog 105 #[.int .i64 n] w fun e w' => e = .returned (.float .f64 (rt n)) ∧ w = w' := by
  have hdiv : ∀ w, (binOp .quo 48 (.float .f64 (floatOfInt .f64 (clipW n))) (.float .f64 4679240012837945344)).run Try.prog w = .ok (.float .f64 (rt n)) w := fun w => run_float_arith w .quo _ .f64 _ _ _ (rt_div n)
  by_cases h1 : n < 1
  · have e : clipW n = 1 := by unfold clipW; omega
    rw [e] at hdiv
    go_enter Try.func105, Try.ntmps105
    go_wp2
    all_goals (go_ret; exact ⟨rfl, rfl⟩)
  · by_cases h2 : n > 1048576
    · have e : clipW n = 1048576 := by unfold clipW; omega
      rw [e] at hdiv
      go_enter Try.func105, Try.ntmps105
      go_wp2
      all_goals (go_ret; exact ⟨rfl, rfl⟩)
    · have e : clipW n = n := by unfold clipW; omega
      rw [e] at hdiv
      go_enter Try.func105, Try.ntmps105
      go_wp2
      all_goals (go_ret; exact ⟨rfl, rfl⟩)

theorem rweight_c (x : Nat) (w : World) :
    Calls Try.prog 104 #[.float .f64 x] w fun e w' => e = .returned (.int .i64 (wt x)) ∧ w = w' := by
  have hnan : (FloatKind.f64.format.order x x != some .eq) = (double.read x).isNaN := order_self x
  cases hn : (double.read x).isNaN
  case true =>
    rw [hn] at hnan
    rw [wt_nan hn]
    go_enter Try.func104, Try.ntmps104
    go_wp2
    all_goals (go_ret; exact ⟨rfl, rfl⟩)
  case false =>
  rw [hn] at hnan
  cases hg : (double.order x cSIXT == some .gt || double.order x cSIXT == some .eq)
  case true =>
    have hg' : (FloatKind.f64.format.order x 4625196817309499392 == some .gt || FloatKind.f64.format.order x 4625196817309499392 == some .eq) = true := hg
    rw [wt_ge16 hg]
    go_enter Try.func104, Try.ntmps104
    go_wp2
    all_goals (go_ret; exact ⟨rfl, rfl⟩)
  case false =>
  have hg' : (FloatKind.f64.format.order x 4625196817309499392 == some .gt || FloatKind.f64.format.order x 4625196817309499392 == some .eq) = false := hg
  cases hl : (double.order x 0 == some .lt || double.order x 0 == some .eq)
  case true =>
    have hl' : (FloatKind.f64.format.order x 0 == some .lt || FloatKind.f64.format.order x 0 == some .eq) = true := hl
    rw [wt_le0 hl]
    go_enter Try.func104, Try.ntmps104
    go_wp2
    all_goals (go_ret; exact ⟨rfl, rfl⟩)
  case false =>
  have hl' : (FloatKind.f64.format.order x 0 == some .lt || FloatKind.f64.format.order x 0 == some .eq) = false := hl
  obtain ⟨K, L, hx, hL, hv0, hv1⟩ := between hn hg hl
  have hw : wt x = max 1 (min 1048576 ((vn K L * 65536 / TT : Nat) : Int)) := by unfold wt; rw [hx]; rfl
  rw [hw]
  generalize hV : vn K L * 65536 = V at hw ⊢
  have hV1 : V < 1048576 * TT := by omega
  have hT := TT_pos
  clear hg hl hn hw
  generalize hR : max 1 (min 1048576 ((V / TT : Nat) : Int)) = R
  have hRR := Lib.hid hR
  clear hR
  -- one step of the search
  have hquo : ∀ mid : Nat, mid ≤ 1048576 → ∃ q, (∀ w, (binOp .quo 48 (.float .f64 (floatOfInt .f64 (mid : Int))) (.float .f64 4679240012837945344)).run Try.prog w = .ok (.float .f64 q) w) ∧ (FloatKind.f64.format.order q x == some .lt || FloatKind.f64.format.order q x == some .eq) = decide (mid * TT ≤ V) := by
    intro mid hm
    obtain ⟨q, h1, h2⟩ := quot_fl (mid : Int) (by omega)
    refine ⟨q, fun w => run_float_arith w .quo _ .f64 _ _ _ h1, ?_⟩
    have := le_grid h2 hx hL
    rw [hV] at this
    exact this
  go_enter Try.func104, Try.ntmps104
  go_wp2
  go_loop [3, 4] (fun l h => ∃ (low high : Nat), l = .int .i64 low ∧ h = .int .i64 high ∧ low < high ∧ high ≤ 1048576 ∧ low * TT ≤ V ∧ V < high * TT) (fun l h => (intOf h - intOf l).toNat)
  case atStart => exact ⟨0, 1048576, rfl, rfl, by omega, by omega, by omega, hV1⟩
  case round =>
    obtain ⟨low, high, rfl, rfl, hlh, hh, hlo, hhi⟩ := hrel
    by_cases hlt : low + 1 < high
    · have hlt' : (low : Int) + 1 < (high : Int) := by omega
      obtain ⟨q, hq, hc⟩ := hquo ((low + high) / 2) (by omega)
      rw [show (((low + high) / 2 : Nat) : Int) = ((low : Int) + (high : Int)) / 2 by omega] at hq
      by_cases hle : (low + high) / 2 * TT ≤ V
      · rw [decide_eq_true hle] at hc
        go_wp2
        go_round
        case rel => exact ⟨(low + high) / 2, high, by congr 1, rfl, by omega, hh, hle, hhi⟩
        case measure => simp [intOf]; omega
      · rw [decide_eq_false hle] at hc
        go_wp2
        go_round
        case rel => exact ⟨low, (low + high) / 2, rfl, by congr 1, by omega, by omega, hlo, by omega⟩
        case measure => simp [intOf]; omega
    · have hlt' : ¬ (low : Int) + 1 < (high : Int) := by omega
      have hlow : V / TT = low := by
        have : high = low + 1 := by omega
        subst this
        exact Nat.div_eq_of_lt_le hlo hhi
      have hR := hRR.out
      rw [hlow] at hR
      clear hlow
      by_cases h1 : low < 1
      · have h1' : (low : Int) < 1 := by omega
        go_wp2
        go_ret
        exact ⟨by rw [show R = 1 by omega]; rfl, rfl⟩
      · have h1' : ¬ (low : Int) < 1 := by omega
        go_wp2
        go_ret
        exact ⟨by rw [show R = (low : Int) by omega]; rfl, rfl⟩
end Go.Proofs.Ytbbmfpdlkogkfaa
end
section
namespace Go.Proofs.Ytbbmfpdlkogkfaa
open Go.RowKit

theorem own_below {B : Nat} {e : TypeId} {k : Nat} {v : Value} {n : Nat} {xs : List Value} {w w' : World} (h : w.ownsRow B e k v n xs) (hb : Below w.heap.size w w') : w'.ownsRow B e k v n xs :=
  h.kept (row := none) ⟨hb.os, hb.tape, hb.output, hb.size, fun j hj _ => hb.block j hj⟩ (by cases hv : v.ownBlock <;> simp)

/-- A row of ints at a place. -/
def SI (w : World) (b off : Nat) (zs : List Int) : Prop := ∀ j, j < zs.length → w.cell? ⟨b, off + j, none⟩ = some (.int .i64 (zs.getD j 0))

def sumI (l : List Int) : Int := l.foldl (· + ·) 0
theorem sumI_append (l : List Int) (x : Int) : sumI (l ++ [x]) = sumI l + x := by simp [sumI, List.foldl_append]
theorem foldl_add (l : List Int) (a : Int) : l.foldl (· + ·) a = a + sumI l := by
  induction l generalizing a with
  | nil => simp [sumI]
  | cons x t ih => simp only [sumI, List.foldl_cons]; rw [ih, ih (0 + x)]; omega
theorem sumI_cons (x : Int) (l : List Int) : sumI (x :: l) = x + sumI l := by simp only [sumI, List.foldl_cons]; rw [foldl_add]; unfold sumI; omega
theorem take_next (zs : List Int) (k : Nat) (hk : k < zs.length) : zs.take (k + 1) = zs.take k ++ [zs.getD k 0] := by
  rw [List.take_add_one, List.getElem?_eq_getElem hk, List.getD_eq_getElem?_getD, List.getElem?_eq_getElem hk]; rfl
theorem sumI_next (zs : List Int) (k : Nat) (hk : k < zs.length) : sumI (zs.take (k + 1)) = sumI (zs.take k) + zs.getD k 0 := by rw [take_next zs k hk, sumI_append]
theorem sumI_bound (l : List Int) (M : Int) (h : ∀ z ∈ l, 0 ≤ z ∧ z ≤ M) : 0 ≤ sumI l ∧ sumI l ≤ M * l.length := by
  induction l with
  | nil => simp [sumI]
  | cons x t ih =>
    have h1 := h x (by simp)
    have h2 := ih (fun z hz => h z (by simp [hz]))
    rw [sumI_cons, List.length_cons, Int.natCast_add, Int.mul_add]
    omega
theorem getD_mem (l : List Int) (k : Nat) (h : k < l.length) : l.getD k 0 ∈ l := by
  rw [List.getD_eq_getElem?_getD, List.getElem?_eq_getElem h]; exact List.getElem_mem h

end Go.Proofs.Ytbbmfpdlkogkfaa
end
section
namespace Go.Proofs.Ytbbmfpdlkogkfaa
open Go.RowKit Go.Shelf Go.Lib Ieee

def badW (n : Int) : Bool := decide (n < 1) || decide (n > 1048576)
/-- Check's number. -/
def chk (zs : List Int) : Int := if zs.length = 0 then 1 else if 64 < zs.length then 2 else if zs.any badW then 1 else 0

theorem wrong_c (n : Int) (w : World) :
    Calls Try.prog 120 #[.int .i64 n] w fun e w' => e = .returned (.bool (badW n)) ∧ w = w' := by
  by_cases h1 : n < 1
  · have e : badW n = true := by simp [badW, h1]
    rw [e]
    go_enter Try.func120, Try.ntmps120
    go_wp2
    all_goals (go_ret; exact ⟨rfl, rfl⟩)
  · by_cases h2 : n > 1048576
    · have e : badW n = true := by simp [badW, h2]
      rw [e]
      go_enter Try.func120, Try.ntmps120
      go_wp2
      all_goals (go_ret; exact ⟨rfl, rfl⟩)
    · have e : badW n = false := by simp [badW, h1, h2]
      rw [e]
      go_enter Try.func120, Try.ntmps120
      go_wp2
      all_goals (go_ret; exact ⟨rfl, rfl⟩)

theorem below_dn (w : World) (q : Nat) : Below w.heap.size w (w.drewN q) := below_drewN' (Below.refl _ _) q

theorem anybad_c (b off cap : Nat) (zs : List Int) (w : World) (hn : zs.length ≤ 64) (hc : SI w b off zs) :
    Calls Try.prog 119 #[.slice (some ⟨b, off, none⟩) zs.length cap, .func (.func 120) #[] #[]] w fun e w' => e = .returned (.bool (zs.any badW)) ∧ ∃ q, w' = w.drewN q := by
  have h := AnyE.slices_ContainsFunc anyInt (Value.int .i64) badW 120 #[] (enters_of Try.func120 (by kernel_rfl) rfl) b off zs.length cap zs w
    (fun W x _ => (wrong_c x W).mono fun e w' ⟨h1, h2⟩ => ⟨h1, 0, by rw [← h2]; rfl⟩) (Nat.le_refl _) (by omega)
    (fun j hj => by rw [hc j hj, getElem!_pos zs j hj, List.getD_eq_getElem?_getD, List.getElem?_eq_getElem hj]; rfl)
  rw [List.take_length] at h
  exact h

theorem check_c (b off cap : Nat) (zs : List Int) (w : World) (hlen : zs.length ≤ 9223372036854775807) (hc : SI w b off zs) :
    Calls Try.prog 112 #[.slice (some ⟨b, off, none⟩) zs.length cap] w fun e w' => e = .returned (.int .i64 (chk zs)) ∧ Below w.heap.size w w' := by
  by_cases h0 : zs.length = 0
  · have e : chk zs = 1 := by simp [chk, h0]
    rw [e, h0]
    go_enter Try.func112, Try.ntmps112
    go_wp2
    all_goals (go_ret; exact ⟨rfl, Below.refl _ _⟩)
  · have h0' : ¬ (zs.length : Int) = 0 := by omega
    by_cases h1 : 64 < zs.length
    · have h1' : (64 : Int) < (zs.length : Int) := by omega
      have e : chk zs = 2 := by simp [chk, h0, h1]
      rw [e]
      go_enter Try.func112, Try.ntmps112
      go_wp2
      all_goals (go_ret; exact ⟨rfl, Below.refl _ _⟩)
    · have h1' : ¬ (64 : Int) < (zs.length : Int) := by omega
      have hcon := anybad_c b off cap zs w (by omega) hc
      have e : chk zs = if zs.any badW then 1 else 0 := by simp only [chk, h0, h1, if_false]
      rw [e]
      clear hc e
      generalize hb : zs.any badW = bad at hcon ⊢
      clear hb
      cases bad
      · go_enter Try.func112, Try.ntmps112
        go_wp2_with (go_at_call 119; refine hcon.mono ?_; rintro e w1 ⟨rfl, q, rfl⟩)
        all_goals (go_ret; exact ⟨rfl, below_dn _ _⟩)
      · go_enter Try.func112, Try.ntmps112
        go_wp2_with (go_at_call 119; refine hcon.mono ?_; rintro e w1 ⟨rfl, q, rfl⟩)
        all_goals (go_ret; exact ⟨rfl, below_dn _ _⟩)

theorem check_nil (a : Option Addr) (cap : Nat) (w : World) :
    Calls Try.prog 112 #[.slice a 0 cap] w fun e w' => e = .returned (.int .i64 1) ∧ w = w' := by
  go_enter Try.func112, Try.ntmps112
  go_wp2
  all_goals (go_ret; exact ⟨rfl, rfl⟩)
theorem rcheck_nil (a : Option Addr) (cap : Nat) (w : World) :
    Calls Try.prog 103 #[.slice a 0 cap] w fun e w' => e = .returned (.int .i64 1) ∧ w = w' := by
  go_enter Try.func103, Try.ntmps103
  go_wp2
  all_goals (go_ret; exact ⟨rfl, rfl⟩)

theorem any_take (zs : List Int) (k : Nat) (hk : k < zs.length) (h : (zs.take k).any badW = false) : (zs.take (k + 1)).any badW = badW (zs.getD k 0) := by
  rw [take_next zs k hk, List.any_append, h]; simp
theorem any_of_take (zs : List Int) (k : Nat) (hk : k < zs.length) (h : badW (zs.getD k 0) = true) : zs.any badW = true := by
  rw [List.any_eq_true]; exact ⟨_, getD_mem zs k hk, h⟩

set_option maxHeartbeats 1000000 in
theorem rcheck_c (b off cap : Nat) (zs : List Int) (w : World) (hlen : zs.length ≤ 9223372036854775807) (hc : SI w b off zs) :
    Calls Try.prog 103 #[.slice (some ⟨b, off, none⟩) zs.length cap] w fun e w' => e = .returned (.int .i64 (chk zs)) ∧ w = w' := by
  by_cases h0 : zs.length = 0
  · have e : chk zs = 1 := by simp [chk, h0]
    rw [e, h0]
    exact rcheck_nil _ _ _
  · have h0' : ¬ (zs.length : Int) = 0 := by omega
    by_cases h1 : 64 < zs.length
    · have h1' : (64 : Int) < (zs.length : Int) := by omega
      have e : chk zs = 2 := by simp [chk, h0, h1]
      rw [e]
      go_enter Try.func103, Try.ntmps103
      go_wp2
      all_goals (go_ret; exact ⟨rfl, rfl⟩)
    · have h1' : ¬ (64 : Int) < (zs.length : Int) := by omega
      have e : chk zs = if zs.any badW then 1 else 0 := by simp only [chk, h0, h1, if_false]
      have hE := Lib.hid e
      have hC := Lib.hid hc
      generalize chk zs = R at hE ⊢
      clear e hc
      go_enter Try.func103, Try.ntmps103
      go_wp2
      go_loop [3] (fun i => ∃ k : Nat, k ≤ zs.length ∧ i = .int .i64 k ∧ Hid ((zs.take k).any badW = false)) (fun i => zs.length - (intOf i).toNat)
      case atStart => exact ⟨0, Nat.zero_le _, rfl, rfl⟩
      case round =>
        obtain ⟨k, hk, rfl, hall⟩ := hrel
        by_cases hlt : k < zs.length
        · have hcell := hC.out k hlt
          have hlt' : (k : Int) < (zs.length : Int) := by omega
          have hnext := any_take zs k hlt hall.out
          have hany := any_of_take zs k hlt
          generalize hz : zs.getD k 0 = z at hcell hnext hany
          have hN := Lib.hid hnext
          have hA := Lib.hid hany
          clear hz hnext hany
          by_cases g1 : z < 1
          · have hR : R = 1 := by rw [hE.out, if_pos (hA.out (by simp [badW, g1]))]
            subst hR
            go_wp2
            go_ret
            exact ⟨rfl, rfl⟩
          · by_cases g2 : z > 1048576
            · have hR : R = 1 := by rw [hE.out, if_pos (hA.out (by simp [badW, g2]))]
              subst hR
              go_wp2
              go_ret
              exact ⟨rfl, rfl⟩
            · go_wp2
              go_round
              case rel => exact ⟨k + 1, by omega, by go_num, by rw [Hid, hN.out]; simp only [badW, g1, g2, decide_false, Bool.or_false]⟩
              case measure => simp [intOf]; omega
        · have hlt' : ¬ (k : Int) < (zs.length : Int) := by omega
          have : k = zs.length := by omega
          subst this
          have hall' := hall.out
          rw [List.take_length] at hall'
          have hR : R = 0 := by rw [hE.out, hall']; rfl
          clear hall' hall
          subst hR
          go_wp2
          go_ret
          exact ⟨rfl, rfl⟩
end Go.Proofs.Ytbbmfpdlkogkfaa
end
section
namespace Go.Proofs.Ytbbmfpdlkogkfaa
open Go.RowKit Go.Shelf Go.Lib Ieee

theorem info3 : (Try.prog.info? 3).map (fun i => (i.zero, i.size, i.bytes)) = some (some (.int .i64 0), 1, 8) := by kernel_rfl

/-- A slice of the call's own that holds these ints. -/
def OI (w : World) (base : Nat) (v : Value) (l : List Int) : Prop := w.ownsRow base 3 1 v l.length (l.map (Value.int .i64))
theorem OI.nil (w : World) (base : Nat) : OI w base (.slice none 0 0) [] := World.ownsRow_nil w base _ _
theorem OI.below {w w' : World} {base : Nat} {v : Value} {l : List Int} (h : OI w base v l) (hb : Below w.heap.size w w') : OI w' base v l := own_below h hb
theorem OI.form {w : World} {base : Nat} {v : Value} {l : List Int} (h : OI w base v l) (hl : l ≠ []) :
    ∃ g cap, v = .slice (some ⟨g, 0, none⟩) l.length cap ∧ base ≤ g ∧ g < w.heap.size ∧ SI w g 0 l ∧ ∀ j, w.frozen? ⟨g, j, none⟩ = false := by
  have h0 := h
  obtain ⟨hlen, h1⟩ := h
  rcases h1 with ⟨_, hn⟩ | ⟨g, cap, cur, rfl, hb, hg, hnc, hm, hs, ht⟩
  · exact absurd (List.eq_nil_of_length_eq_zero hn) hl
  · refine ⟨g, cap, rfl, hb, ?_, ?_, fun j => World.ownsRow.frozenAt h0 j⟩
    · have := World.ownsRow.lt h0 g rfl; exact this.2
    · intro j hj
      have := World.ownsRow.cellAt h0 j (by omega)
      rw [Nat.zero_add, this, List.getElem?_map, List.getElem?_eq_getElem hj, List.getD_eq_getElem?_getD, List.getElem?_eq_getElem hj]; rfl
theorem OI.nilForm {w : World} {base : Nat} {v : Value} (h : OI w base v []) : ∃ a cap, v = .slice a 0 cap := by
  obtain ⟨_, h1⟩ := h
  rcases h1 with ⟨rfl, hn⟩ | ⟨g, cap, cur, rfl, _⟩
  · exact ⟨_, _, rfl⟩
  · exact ⟨_, _, rfl⟩

/-- Two slices of the call's own, apart. -/
def Two (B : Nat) (w0 w : World) (v1 v2 : Value) (l1 l2 : List Int) : Prop :=
  Below B w0 w ∧ OI w B v1 l1 ∧ OI w B v2 l2 ∧ (∀ j, v1.ownBlock = some j → v2.ownBlock ≠ some j)
theorem Two.start (w : World) : Two w.heap.size w w (.slice none 0 0) (.slice none 0 0) [] [] := ⟨Below.refl _ _, OI.nil _ _, OI.nil _ _, by intro j h; cases h⟩
theorem Two.push1 {B : Nat} {w0 wr w1 : World} {v1 v2 v' : Value} {l1 l2 : List Int} {x : Int} {o : Obj} (h : Two B w0 wr v1 v2 l1 l2) (hB : B ≤ wr.heap.size)
    (hown : w1.ownsRow B 3 1 v' (l1.length + 1) (l1.map (Value.int .i64) ++ [.int .i64 x])) (hg : (wr.alloc o).grownBy w1 v1.ownBlock) (hat : v'.ownBlock = v1.ownBlock ∨ v'.ownBlock = some (wr.alloc o).heap.size) :
    Two B w0 w1 v' v2 (l1 ++ [x]) l2 := by
  obtain ⟨hb, h1, h2, ha⟩ := h
  refine ⟨(hb.alloc hB o).grown hg (by simp; omega) (fun j hj => ?_), ?_, ?_, ?_⟩
  · exact (World.ownsRow.lt h1 j hj).1
  · unfold OI; simpa using hown
  · refine World.ownsRow.kept (World.ownsRow.alloc h2 o) hg ?_
    cases hv : v2.ownBlock with
    | none => exact .inl rfl
    | some j => exact .inr fun e => ha j e.symm hv
  · intro j hj hj2
    rcases hat with e | e
    · exact ha j (e ▸ hj) hj2
    · have h3 := (World.ownsRow.lt h2 j hj2).2
      rw [hj] at e
      have h4 := Option.some.inj e
      simp at h4
      omega
theorem Two.swap {B : Nat} {w0 w : World} {v1 v2 : Value} {l1 l2 : List Int} (h : Two B w0 w v1 v2 l1 l2) : Two B w0 w v2 v1 l2 l1 :=
  ⟨h.1, h.2.2.1, h.2.1, fun j h1 h2 => h.2.2.2 j h2 h1⟩

def partsL (total : Int) (zs : List Int) : List Int := zs.map fun n => total * n / sumI zs
def overL (total : Int) (zs : List Int) : List Int := zs.map fun n => total * n % sumI zs
theorem map_take_next (f : Int → Int) (zs : List Int) (k : Nat) (hk : k < zs.length) : (zs.map f).take (k + 1) = (zs.map f).take k ++ [f (zs.getD k 0)] := by
  rw [take_next _ k (by simpa using hk)]
  congr 2
  simp [List.getD_eq_getElem?_getD, List.getElem?_eq_getElem hk]

theorem SI.below {w w' : World} {b off B : Nat} {zs : List Int} (h : SI w b off zs) (hb : Below B w w') (hlt : b < B) : SI w' b off zs := fun j hj => by
  have h1 := h j hj
  have := (hb.block b hlt)
  unfold World.cell? at h1 ⊢
  rw [this]; exact h1

end Go.Proofs.Ytbbmfpdlkogkfaa
end
section
namespace Go.Proofs.Ytbbmfpdlkogkfaa
open Go.RowKit Go.Shelf Go.Lib Go.Sort Ieee

section
variable {α : Type} [Inhabited α]
end
end Go.Proofs.Ytbbmfpdlkogkfaa
end
section
namespace Go.Proofs.Ytbbmfpdlkogkfaa
open Go.RowKit Go.Lib Go.Sort

section
variable {m : Nat}
/-- Places, as the machine has them. -/
def encF (i : Fin (m + 1)) : Value := .int .i64 (i.val : Int)
def valF (d : Array (Fin (m + 1))) : List Int := d.toList.map fun i => (i.val : Int)
/-- What mostFirst's closure says. -/
def cmpF (l : List Int) (i j : Fin (m + 1)) : Int := Lib.compareInt (l.getD j.val 0) (l.getD i.val 0)
def allF (m : Nat) : Array (Fin (m + 1)) := Array.ofFn fun i => i
theorem size_allF : (allF m).size = m + 1 := by simp [allF]
theorem valF_allF : valF (allF m) = (List.range (m + 1)).map (Int.ofNat) := by
  apply List.ext_getElem
  · simp [valF, allF]
  · intro i h1 h2
    simp only [valF, allF, List.getElem_map, Array.getElem_toList, Array.getElem_ofFn, List.getElem_range]
    rfl
end
/-- The order of the places: greatest first, of numbers alike the earlier one. -/
def ranks (l : List Int) : List Int := match l with
  | [] => []
  | x :: t => valF (Sort.insertionSort (ltOf (cmpF (m := t.length) (x :: t))) (allF t.length) 0 (t.length + 1))


section
variable {α : Type} [Inhabited α]
theorem insInner_perm (lt : α → α → Bool) (a b : Nat) : ∀ (j : Nat) (d : Array α), a ≤ j → j < b → b ≤ d.size → PermIn a (j + 1) d (insInner lt a j d)
  | 0, d, _, _, _ => by unfold insInner; exact permIn_refl _ _ _
  | j + 1, d, haj, hjb, hb => by
    unfold insInner
    split
    · rename_i hc
      simp only [Bool.and_eq_true, decide_eq_true_eq] at hc
      have ih := insInner_perm lt a b j (swp d (j + 1) j) (by omega) (by omega) (by rw [swp_size]; exact hb)
      exact permIn_trans _ _ _ a _ (swp_permIn d a (j + 2) (j + 1) j (by omega) (by omega) (by omega) (by omega) (by omega)) (permIn_mono _ _ a (j + 1) a (j + 2) (Nat.le_refl _) (by omega) (by rw [swp_size]; omega) ih)
    · exact permIn_refl _ _ _

theorem insInner_congr (lt lt' : α → α → Bool) (a : Nat) : ∀ (j : Nat) (d : Array α), j < d.size → (∀ q, a ≤ q → q < j → lt d[j]! d[q]! = lt' d[j]! d[q]!) → insInner lt a j d = insInner lt' a j d
  | 0, d, _, _ => by unfold insInner; rfl
  | j + 1, d, hj, h => by
    unfold insInner
    by_cases hc : j + 1 > a
    · rw [h j (by omega) (by omega)]
      split
      · refine insInner_congr lt lt' a j _ (by rw [swp_size]; omega) fun q h1 h2 => ?_
        rw [swp_right d (j + 1) j (by omega), swp_other d (j + 1) j q (by omega) (by omega)]
        exact h q h1 (by omega)
      · rfl
    · simp [hc]

theorem insOuter_congr (lt lt' : α → α → Bool) (a b : Nat) : ∀ (n i : Nat) (d : Array α), b - i = n → a < i → b ≤ d.size → (∀ p q, a ≤ q → q < p → i ≤ p → p < b → lt d[p]! d[q]! = lt' d[p]! d[q]!) → insOuter lt a b i d = insOuter lt' a b i d
  | 0, i, d, hn, _, _, _ => by rw [insOuter, if_neg (by omega), insOuter, if_neg (by omega)]
  | n + 1, i, d, hn, hai, hb, h => by
    have hlt : i < b := by omega
    have e1 : insOuter lt a b i d = insOuter lt a b (i + 1) (insInner lt a i d) := by rw [insOuter, if_pos hlt]
    have e2 : insOuter lt' a b i d = insOuter lt' a b (i + 1) (insInner lt' a i d) := by rw [insOuter, if_pos hlt]
    rw [e1, e2, insInner_congr lt lt' a i d (by omega) fun q h1 h2 => h i q h1 h2 (Nat.le_refl _) hlt]
    have hP := insInner_perm lt' a b i d (by omega) hlt hb
    refine insOuter_congr lt lt' a b n (i + 1) _ (by omega) (by omega) (by rw [hP.1]; exact hb) fun p q h1 h2 h3 h4 => ?_
    rw [hP.2.1 p (.inr (by omega))]
    by_cases hq : q < i + 1
    · exact permIn_all d _ a (i + 1) (fun y => lt d[p]! y = lt' d[p]! y) (by omega) hP (fun q' h5 h6 => h p q' h5 (by omega) (by omega) h4) q h1 hq
    · rw [hP.2.1 q (.inr (by omega))]
      exact h p q h1 h2 (by omega) h4

theorem insertionSort_congr (lt lt' : α → α → Bool) (d : Array α) (a b : Nat) (hb : b ≤ d.size) (h : ∀ p q, a ≤ q → q < p → p < b → lt d[p]! d[q]! = lt' d[p]! d[q]!) : insertionSort lt d a b = insertionSort lt' d a b := by
  unfold insertionSort
  exact insOuter_congr lt lt' a b _ (a + 1) d rfl (by omega) hb fun p q h1 h2 _ h4 => h p q h1 h2 h4
end

section
variable {m : Nat}
/-- Greater first; of numbers alike the earlier place. -/
def lexF (l : List Int) (i j : Fin (m + 1)) : Bool := decide (l.getD j.val 0 < l.getD i.val 0) || (decide (l.getD i.val 0 = l.getD j.val 0) && decide (i.val < j.val))
theorem lexF_iff (l : List Int) (i j : Fin (m + 1)) : lexF l i j = true ↔ (l.getD j.val 0 < l.getD i.val 0 ∨ (l.getD i.val 0 = l.getD j.val 0 ∧ i.val < j.val)) := by
  simp [lexF]
theorem lexF_swo (l : List Int) : SWO (lexF (m := m) l) where
  irrefl x := by rw [Bool.eq_false_iff]; intro h; rw [lexF_iff] at h; omega
  trans x y z h1 h2 := by rw [lexF_iff] at *; omega
  ntrans x y z h1 h2 := by
    rw [Bool.eq_false_iff] at *
    intro h
    rw [ne_eq, lexF_iff] at h1 h2
    rw [lexF_iff] at h
    omega
theorem ltOf_cmpF (l : List Int) (i j : Fin (m + 1)) : ltOf (cmpF l) i j = decide (l.getD j.val 0 < l.getD i.val 0) := by
  unfold ltOf cmpF Lib.compareInt
  generalize l.getD j.val 0 = y
  generalize l.getD i.val 0 = x
  by_cases h1 : y < x
  · simp [h1]
  · by_cases h2 : x < y <;> simp [h1, h2]
theorem ltOf_swo (l : List Int) : SWO (ltOf (cmpF (m := m) l)) where
  irrefl x := by rw [ltOf_cmpF]; simp
  trans x y z h1 h2 := by rw [ltOf_cmpF] at *; simp only [decide_eq_true_eq] at *; omega
  ntrans x y z h1 h2 := by rw [ltOf_cmpF] at *; simp only [decide_eq_false_iff_not] at *; omega
theorem sortF_length (l : List Int) (n : Nat) (hn : n ≤ m + 1) : (valF (Sort.insertionSort (ltOf (cmpF (m := m) l)) (allF m) 0 n)).length = m + 1 := by
  have := (insertionSort_holds (ltOf_swo (m := m) l) (allF m) 0 n (by omega) (by rw [size_allF]; exact hn)).1.1
  simp [valF, this, size_allF]
/-- Where the one compared stood behind the other, both orders say the same. -/
theorem agree (l : List Int) (i j : Fin (m + 1)) (h : j.val < i.val) : ltOf (cmpF l) i j = lexF l i j := by
  rw [ltOf_cmpF]
  unfold lexF
  generalize l.getD j.val 0 = y
  generalize l.getD i.val 0 = x
  have : ¬ i.val < j.val := by omega
  simp [this]
theorem allF_get (j : Nat) (h : j < m + 1) : (allF m)[j]! = ⟨j, h⟩ := by
  rw [getElem!_pos _ j (by rw [size_allF]; exact h)]; simp [allF]

/-- The places by their rank. -/
structure MF (l : List Int) (p : Nat → Nat) : Prop where
  lt : ∀ k, k < l.length → p k < l.length
  onto : ∀ x, x < l.length → ∃ k, k < l.length ∧ p k = x
  inj : ∀ i j, i < j → j < l.length → p i ≠ p j
  ord : ∀ i j, i < j → j < l.length → l.getD (p j) 0 < l.getD (p i) 0 ∨ (l.getD (p i) 0 = l.getD (p j) 0 ∧ p i < p j)

theorem mf_of (l : List Int) (hl : l.length = m + 1) (d : Array (Fin (m + 1))) (hP : PermIn 0 (m + 1) (allF m) d) (hS : SortedIn (lexF l) 0 (m + 1) d) :
    ∃ p, MF l p ∧ valF d = (List.range l.length).map (fun k => ((p k : Nat) : Int)) := by
  have hsz : d.size = m + 1 := by rw [hP.1, size_allF]
  have hperm : d.toList.Perm (allF m).toList := by
    have h := hP.2.2
    have e1 : d.extract 0 (m + 1) = d := by have := Array.extract_size (xs := d); rwa [hsz] at this
    have e2 : (allF m).extract 0 (m + 1) = allF m := by have := Array.extract_size (xs := allF m); rwa [size_allF] at this
    rwa [e1, e2] at h
  have hnd : d.toList.Nodup := by
    refine hperm.nodup_iff.2 ?_
    show List.Pairwise _ _
    rw [List.pairwise_iff_getElem]
    intro i j hi hj hij he
    have := congrArg Fin.val he
    simp only [allF, Array.getElem_toList, Array.getElem_ofFn] at this
    omega
  have hne : ∀ i j, i < j → j < l.length → (d[i]!).val ≠ (d[j]!).val := by
    intro i j hij hj he
    have h1 : i < d.size := by omega
    have h2 : j < d.size := by omega
    rw [getElem!_pos _ i h1, getElem!_pos _ j h2] at he
    exact (List.pairwise_iff_getElem.1 hnd) i j (by simpa using h1) (by simpa using h2) hij (by simpa using Fin.ext he)
  refine ⟨fun k => (d[k]!).val, ⟨?_, ?_, ?_, ?_⟩, ?_⟩
  · intro k _; have := (d[k]!).isLt; omega
  · intro x hx
    have hm : (⟨x, by omega⟩ : Fin (m + 1)) ∈ d.toList := hperm.mem_iff.2 (by rw [Array.mem_toList_iff]; simp [allF])
    obtain ⟨k, hk, he⟩ := List.getElem_of_mem hm
    have hk' : k < d.size := by simpa using hk
    refine ⟨k, by omega, ?_⟩
    rw [getElem!_pos _ k hk', ← Array.getElem_toList, he]
  · exact hne
  · intro i j hij hj
    have h0 := hS i j (by omega) hij (by omega)
    rw [Bool.eq_false_iff, ne_eq, lexF_iff] at h0
    have h1 := hne i j hij hj
    omega
  · apply List.ext_getElem
    · simp [valF, hsz, hl]
    · intro i h1 h2
      have hi : i < d.size := by simpa [valF] using h1
      simp [valF, getElem!_pos d i hi]
end

theorem ranks_mf (l : List Int) (h : l.length ≠ 0) : ∃ p, MF l p ∧ ranks l = (List.range l.length).map (fun k => ((p k : Nat) : Int)) := by
  cases l with
  | nil => exact absurd rfl h
  | cons x t =>
    have hc : Sort.insertionSort (ltOf (cmpF (m := t.length) (x :: t))) (allF t.length) 0 (t.length + 1) = Sort.insertionSort (lexF (m := t.length) (x :: t)) (allF t.length) 0 (t.length + 1) :=
      insertionSort_congr _ _ _ _ _ (by rw [size_allF]; exact Nat.le_refl _) fun p q _ h2 h3 => by
        rw [allF_get p (by omega), allF_get q (by omega)]
        exact agree _ _ _ h2
    have hs := insertionSort_holds (lexF_swo (m := t.length) (x :: t)) (allF t.length) 0 (t.length + 1) (by omega) (by rw [size_allF]; exact Nat.le_refl _)
    have hr : ranks (x :: t) = valF (Sort.insertionSort (ltOf (cmpF (m := t.length) (x :: t))) (allF t.length) 0 (t.length + 1)) := rfl
    rw [hr, hc]
    exact mf_of (x :: t) rfl _ hs.1 hs.2
end Go.Proofs.Ytbbmfpdlkogkfaa
end
section
namespace Go.Proofs.Ytbbmfpdlkogkfaa
open Go.RowKit Go.Shelf Go.Lib Go.Sort Ieee

section
variable {m : Nat}
theorem putRowF (w : World) (blk : Nat) (d : Array (Fin (m + 1))) : putRow encF w blk 0 d = putRow (Value.int .i64) w blk 0 (valF d).toArray := by
  unfold putRow
  congr 1
  funext c
  unfold putCells
  congr 1
  funext k x
  have hs : (valF d).toArray.size = d.size := by simp [valF]
  rw [hs]
  by_cases h : 0 ≤ k ∧ k < 0 + d.size
  · rw [if_pos h, if_pos h]
    have hk : k - 0 < d.size := by omega
    have hk' : k - 0 < (valF d).toArray.size := by omega
    rw [getElem!_pos d _ hk, getElem!_pos (valF d).toArray _ hk']
    simp [encF, valF]
  · rw [if_neg h, if_neg h]
theorem cell_sw_other {α : Type} [Inhabited α] (enc : α → Value) (W : World) (blk off n : Nat) (dk : Array α) (os : Array Obj) (a : Addr) (h1 : a.block ≠ blk) (h2 : a.block < W.heap.size) : (sortWorld enc W blk off n dk os).cell? a = W.cell? a := by
  unfold sortWorld
  rw [cell?_grow _ _ _ (by rw [size_putRow]; exact h2), cell?_putRow_other _ _ _ _ _ _ (.inl h1)]
  rfl
end

def upto (k : Nat) : List Int := (List.range k).map Int.ofNat
theorem upto_next (k : Nat) : upto (k + 1) = upto k ++ [(k : Int)] := by simp [upto, List.range_succ]
theorem upto_length (k : Nat) : (upto k).length = k := by simp [upto]

theorem below_sw {α : Type} [Inhabited α] {enc : α → Value} {w0 W : World} {blk off : Nat} {d : Array α} {B : Nat} (h : SW enc w0 blk off d W) (hB : B ≤ blk) (hblk : blk < w0.heap.size) : Below B w0 W := by
  obtain ⟨n, os, rfl⟩ := h
  refine ⟨rfl, rfl, rfl, ?_, fun j hj => ?_⟩
  · exact (SW.le ⟨n, os, rfl⟩)
  · unfold sortWorld
    rw [heap_grow_old _ _ (by rw [size_putRow]; show j < w0.heap.size; omega)]
    have : blk ≠ j := by omega
    simp [putRow, mapBlock, Sort.ahead, Array.getElem?_modify, this]

theorem cell_below {w w' : World} {B : Nat} {a : Addr} (hb : Below B w w') (h : a.block < B) : w'.cell? a = w.cell? a := by
  unfold World.cell?; rw [hb.block _ h]

theorem OI.mono {w : World} {base base' : Nat} {v : Value} {l : List Int} (h : OI w base v l) (hb : base' ≤ base) : OI w base' v l := by
  obtain ⟨h0, h1⟩ := h
  refine ⟨h0, ?_⟩
  rcases h1 with h1 | ⟨g, cap, cur, h2, h3, h4⟩
  · exact .inl h1
  · exact .inr ⟨g, cap, cur, h2, by omega, h4⟩

/-- What the sort leaves of a slice of the call's own. -/
theorem OI.sorted {m : Nat} {w W : World} {base g cap : Nat} {l : List Int} {r : Array (Fin (m + 1))} (h : OI w base (.slice (some ⟨g, 0, none⟩) l.length cap) l) (hr : (valF r).length = l.length)
    (hS : SW encF w g 0 r W) : OI W base (.slice (some ⟨g, 0, none⟩) l.length cap) (valF r) := by
  obtain ⟨n, os, rfl⟩ := hS
  have hO := h
  obtain ⟨h0, h1⟩ := h
  rcases h1 with ⟨h1, _⟩ | ⟨g', cap', cur, hv, hb, hg, hn, hm, hs, _⟩
  · cases h1
  · cases hv
    unfold OI sortWorld
    rw [putRowF, hr]
    exact ownsRow_sortedI hr hb hg hn hm hs

/-- One slice of the call's own. -/
def One1 (B : Nat) (w0 w : World) (v : Value) (l : List Int) : Prop := Below B w0 w ∧ OI w B v l
theorem One1.start (w : World) (B : Nat) : One1 B w w (.slice none 0 0) [] := ⟨Below.refl _ _, OI.nil _ _⟩
theorem One1.push {B : Nat} {w0 wr w1 : World} {v v' : Value} {l : List Int} {x : Int} {o : Obj} (h : One1 B w0 wr v l) (hB : B ≤ wr.heap.size)
    (hown : w1.ownsRow B 3 1 v' (l.length + 1) (l.map (Value.int .i64) ++ [.int .i64 x])) (hg : (wr.alloc o).grownBy w1 v.ownBlock) : One1 B w0 w1 v' (l ++ [x]) := by
  obtain ⟨hb, h1⟩ := h
  refine ⟨(hb.alloc hB o).grown hg (by simp; omega) (fun j hj => (World.ownsRow.lt h1 j hj).1), ?_⟩
  unfold OI; simpa using hown

end Go.Proofs.Ytbbmfpdlkogkfaa
end
section
namespace Go.Proofs.Ytbbmfpdlkogkfaa
open Go.RowKit Go.Lib Go.Sort

def addAt (l : List Int) (x : Nat) : List Int := l.set x (l.getD x 0 + 1)
def addAll (ps : List Nat) (l : List Int) : List Int := ps.foldl addAt l
theorem addAt_length (l : List Int) (x : Nat) : (addAt l x).length = l.length := by simp [addAt]
theorem addAll_length (ps : List Nat) (l : List Int) : (addAll ps l).length = l.length := by
  induction ps generalizing l with
  | nil => rfl
  | cons x t ih => simp only [addAll, List.foldl_cons] at *; rw [ih, addAt_length]
theorem addAll_snoc (ps : List Nat) (x : Nat) (l : List Int) : addAll (ps ++ [x]) l = addAt (addAll ps l) x := by simp [addAll, List.foldl_append]

/-- The place of the greatest of the first k + 1, the first of them. -/
def bestUpto (rest : List Int) : Nat → Nat
  | 0 => 0
  | k + 1 => if rest.getD (k + 1) 0 > rest.getD (bestUpto rest k) 0 then k + 1 else bestUpto rest k
theorem bestUpto_le (rest : List Int) : ∀ k, bestUpto rest k ≤ k
  | 0 => Nat.le_refl _
  | k + 1 => by
    have := bestUpto_le rest k
    unfold bestUpto
    split <;> omega
theorem bestUpto_spec (rest : List Int) : ∀ k, (∀ x, x ≤ k → rest.getD x 0 ≤ rest.getD (bestUpto rest k) 0) ∧ (∀ x, x < bestUpto rest k → rest.getD x 0 < rest.getD (bestUpto rest k) 0)
  | 0 => ⟨fun x hx => by obtain rfl : x = 0 := by omega
                         exact Int.le_refl _, fun x hx => by unfold bestUpto at hx; omega⟩
  | k + 1 => by
    obtain ⟨h1, h2⟩ := bestUpto_spec rest k
    have h3 := bestUpto_le rest k
    unfold bestUpto
    split
    · rename_i hg
      refine ⟨fun x hx => ?_, fun x hx => ?_⟩
      · by_cases h : x = k + 1
        · subst h; exact Int.le_refl _
        · have := h1 x (by omega); omega
      · have := h1 x (by omega); omega
    · rename_i hg
      refine ⟨fun x hx => ?_, h2⟩
      by_cases h : x = k + 1
      · subst h; omega
      · exact h1 x (by omega)
theorem best_unique (rest : List Int) (k b : Nat) (hb : b ≤ k) (h1 : ∀ x, x ≤ k → rest.getD x 0 ≤ rest.getD b 0) (h2 : ∀ x, x < b → rest.getD x 0 < rest.getD b 0) : bestUpto rest k = b := by
  obtain ⟨g1, g2⟩ := bestUpto_spec rest k
  have h3 := bestUpto_le rest k
  rcases Nat.lt_trichotomy (bestUpto rest k) b with h | h | h
  · have := h2 _ h; have := g1 b hb; omega
  · exact h
  · have := g2 _ h; have := h1 _ h3; omega

/-- The reference's way: one place more at a time to the one of which most is left over. -/
def stepR (s : List Int × List Int) : List Int × List Int := (addAt s.1 (bestUpto s.2 (s.2.length - 1)), s.2.set (bestUpto s.2 (s.2.length - 1)) (-1))
def loopR : Nat → List Int × List Int → List Int × List Int
  | 0, s => s
  | k + 1, s => stepR (loopR k s)
theorem stepR_length (s : List Int × List Int) : (stepR s).1.length = s.1.length ∧ (stepR s).2.length = s.2.length := by simp [stepR, addAt_length]
theorem loopR_length (k : Nat) (s : List Int × List Int) : (loopR k s).1.length = s.1.length ∧ (loopR k s).2.length = s.2.length := by
  induction k with
  | zero => exact ⟨rfl, rfl⟩
  | succ k ih => have := stepR_length (loopR k s); simp only [loopR]; omega

theorem getD_set (l : List Int) (i j : Nat) (v : Int) (hi : i < l.length) : (l.set i v).getD j 0 = if i = j then v else l.getD j 0 := by
  simp only [List.getD_eq_getElem?_getD, List.getElem?_set]
  by_cases h : i = j
  · subst h; simp [hi]
  · simp [h]

theorem loopR_eq {l : List Int} {p : Nat → Nat} (hM : MF l p) (h0 : ∀ x, 0 ≤ l.getD x 0) (parts : List Int) :
    ∀ k, k ≤ l.length → (loopR k (parts, l)).1 = addAll ((List.range k).map p) parts ∧ (loopR k (parts, l)).2.length = l.length ∧
      ∀ x, x < l.length → ((∃ j, j < k ∧ p j = x) → (loopR k (parts, l)).2.getD x 0 = -1) ∧ ((∀ j, j < k → p j ≠ x) → (loopR k (parts, l)).2.getD x 0 = l.getD x 0)
  | 0, _ => ⟨rfl, rfl, fun x _ => ⟨fun ⟨j, hj, _⟩ => by omega, fun _ => rfl⟩⟩
  | k + 1, hk => by
    obtain ⟨h1, h2, h3⟩ := loopR_eq hM h0 parts k (by omega)
    have hpk := hM.lt k (by omega)
    have hown : (loopR k (parts, l)).2.getD (p k) 0 = l.getD (p k) 0 := (h3 (p k) hpk).2 fun j hj => hM.inj j k hj (by omega)
    have hbest : bestUpto (loopR k (parts, l)).2 ((loopR k (parts, l)).2.length - 1) = p k := by
      refine best_unique _ _ _ (by omega) (fun x hx => ?_) (fun x hx => ?_)
      · rw [hown]
        obtain ⟨j, hj, rfl⟩ := hM.onto x (by omega)
        by_cases hjk : j < k
        · rw [(h3 (p j) (by omega)).1 ⟨j, hjk, rfl⟩]; have := h0 (p k); omega
        · rw [(h3 (p j) (by omega)).2 fun i hi => hM.inj i j (by omega) hj]
          by_cases he : j = k
          · subst he; exact Int.le_refl _
          · have := hM.ord k j (by omega) hj; omega
      · rw [hown]
        obtain ⟨j, hj, rfl⟩ := hM.onto x (by omega)
        by_cases hjk : j < k
        · rw [(h3 (p j) (by omega)).1 ⟨j, hjk, rfl⟩]; have := h0 (p k); omega
        · rw [(h3 (p j) (by omega)).2 fun i hi => hM.inj i j (by omega) hj]
          by_cases he : j = k
          · subst he; omega
          · have := hM.ord k j (by omega) hj; omega
    refine ⟨?_, ?_, fun x hx => ?_⟩
    · simp only [loopR, stepR, hbest]
      rw [h1, List.range_succ, List.map_append, List.map_cons, List.map_nil, addAll_snoc]
    · simp only [loopR, stepR, List.length_set]; exact h2
    · simp only [loopR, stepR, hbest]
      rw [getD_set _ _ _ _ (by omega)]
      constructor
      · rintro ⟨j, hj, hx'⟩
        by_cases he : p k = x
        · rw [if_pos he]
        · rw [if_neg he]
          exact (h3 x hx).1 ⟨j, by rcases Nat.lt_or_ge j k with h | h
                                   · exact h
                                   · have : j = k := by omega
                                     subst this; exact absurd hx' he, hx'⟩
      · intro hn
        rw [if_neg (hn k (by omega))]
        exact (h3 x hx).2 fun j hj => hn j (by omega)

/-- How many are missing. -/
def missing (total : Int) (zs : List Int) : Int := total - sumI (partsL total zs)
theorem missing_bounds (total : Int) (zs : List Int) (hS : 1 ≤ sumI zs) (hn0 : zs.length ≠ 0) : 0 ≤ missing total zs ∧ missing total zs < zs.length := by
  have key : ∀ (t : List Int) (S : Int), sumI (t.map fun n => total * n) = S * sumI (t.map fun n => total * n / S) + sumI (t.map fun n => total * n % S) := by
    intro t S
    induction t with
    | nil => simp [sumI]
    | cons x t ih =>
      simp only [List.map_cons, sumI_cons]
      rw [ih]
      have := Int.mul_ediv_add_emod (total * x) S
      rw [Int.mul_add]
      omega
  have lin : ∀ t : List Int, sumI (t.map fun n => total * n) = total * sumI t := by
    intro t
    induction t with
    | nil => simp [sumI]
    | cons x t ih => simp only [List.map_cons, sumI_cons, ih, Int.mul_add]
  have rem : ∀ t : List Int, 0 ≤ sumI (t.map fun n => total * n % sumI zs) ∧ (t.length ≠ 0 → sumI (t.map fun n => total * n % sumI zs) < sumI zs * t.length) ∧ sumI (t.map fun n => total * n % sumI zs) ≤ sumI zs * t.length := by
    intro t
    induction t with
    | nil => simp [sumI]
    | cons x t ih =>
      have h1 := Int.emod_nonneg (total * x) (show sumI zs ≠ 0 by omega)
      have h2 := Int.emod_lt_of_pos (total * x) (show 0 < sumI zs by omega)
      simp only [List.map_cons, sumI_cons, List.length_cons, Int.natCast_add, Int.mul_add]
      omega
  have h1 := key zs (sumI zs)
  rw [lin] at h1
  obtain ⟨h2, h3, _⟩ := rem zs
  have h3 := h3 hn0
  have e : sumI zs * missing total zs = sumI (zs.map fun n => total * n % sumI zs) := by
    unfold missing partsL
    rw [Int.mul_sub, Int.mul_comm _ total]
    omega
  constructor
  · refine Int.not_lt.1 fun h => ?_
    have : sumI zs * missing total zs < 0 := Int.mul_neg_of_pos_of_neg (by omega) h
    omega
  · refine Int.not_le.1 fun h => ?_
    have : sumI zs * (zs.length : Int) ≤ sumI zs * missing total zs := Int.mul_le_mul_of_nonneg_left h (by omega)
    omega

/-- Split's answer. -/
def splitL (total : Int) (zs : List Int) : List Int := (loopR (missing total zs).toNat (partsL total zs, overL total zs)).1
theorem overL_nonneg (total : Int) (zs : List Int) (hS : 1 ≤ sumI zs) (x : Nat) : 0 ≤ (overL total zs).getD x 0 := by
  by_cases h : x < (overL total zs).length
  · have := getD_mem (overL total zs) x h
    unfold overL at this
    obtain ⟨n, _, hn⟩ := List.mem_map.1 this
    unfold overL
    rw [← hn]; exact Int.emod_nonneg _ (by omega)
  · rw [List.getD_eq_getElem?_getD, List.getElem?_eq_none (by omega)]; exact Int.le_refl _
theorem overL_length (total : Int) (zs : List Int) : (overL total zs).length = zs.length := by simp [overL]
theorem partsL_length (total : Int) (zs : List Int) : (partsL total zs).length = zs.length := by simp [partsL]
theorem splitL_length (total : Int) (zs : List Int) : (splitL total zs).length = zs.length := by unfold splitL; rw [(loopR_length _ _).1, partsL_length]
/-- By the ranks. -/
theorem splitL_eq (total : Int) (zs : List Int) (hS : 1 ≤ sumI zs) (hn0 : zs.length ≠ 0) :
    ∃ p, MF (overL total zs) p ∧ ranks (overL total zs) = (List.range zs.length).map (fun k => ((p k : Nat) : Int)) ∧ splitL total zs = addAll ((List.range (missing total zs).toNat).map p) (partsL total zs) := by
  obtain ⟨p, h1, h2⟩ := ranks_mf (overL total zs) (by rw [overL_length]; exact hn0)
  have hm := missing_bounds total zs hS hn0
  exact ⟨p, h1, by rw [h2, overL_length], (loopR_eq h1 (overL_nonneg total zs hS) (partsL total zs) _ (by rw [overL_length]; omega)).1⟩
end Go.Proofs.Ytbbmfpdlkogkfaa
end
section
namespace Go.Proofs.Ytbbmfpdlkogkfaa
open Go.RowKit Go.Lib Go.Sort

theorem OI.room {w : World} {base : Nat} {a : Addr} {n cap : Nat} {l : List Int} (h : OI w base (.slice (some a) n cap) l) : l.length ≤ cap ∧ cap ≤ maxLen := by
  obtain ⟨_, h1⟩ := h
  rcases h1 with ⟨h1, _⟩ | ⟨g, cap', cur, hv, _, _, hn, hm, _⟩
  · cases h1
  · cases hv; exact ⟨hn, hm⟩

/-- While one is added at each of these places. -/
def Adds (B gp cp gr n : Nat) (w0 : World) (L R : List Int) (w : World) : Prop :=
  Below B w0 w ∧ OI w B (.slice (some ⟨gp, 0, none⟩) n cp) L ∧ SI w gr 0 R
theorem Adds.store {B gp cp gr n x : Nat} {w0 w : World} {L R : List Int} (h : Adds B gp cp gr n w0 L R w) (hB : B ≤ gp) (hne : gp ≠ gr) (hn : L.length = n) : Adds B gp cp gr n w0 (addAt L x) R (w.setCell ⟨gp, x, none⟩ (.int .i64 (L.getD x 0 + 1))) := by
  obtain ⟨h1, h2, h3⟩ := h
  refine ⟨h1.setCell hB _, ?_, fun j hj => ?_⟩
  · subst hn
    have := (World.ownsRow.stored h2 x (.int .i64 (L.getD x 0 + 1))).1
    unfold OI
    rw [addAt_length]
    unfold addAt
    rw [List.map_set]
    exact this
  · rw [World.cell?_setCell_other _ _ _ _ (by intro e; simp only [Addr.mk.injEq] at e; exact hne e.1)]
    exact h3 j hj

theorem chk_zero {zs : List Int} (h : chk zs = 0) : zs.length ≠ 0 ∧ zs.length ≤ 64 ∧ ∀ z ∈ zs, 1 ≤ z ∧ z ≤ 1048576 := by
  unfold chk at h
  split at h
  · omega
  · split at h
    · omega
    · split at h
      · omega
      · rename_i h1 h2 h3
        refine ⟨h1, by omega, fun z hz => ?_⟩
        rw [Bool.not_eq_true, List.any_eq_false] at h3
        have := h3 z hz
        simp [badW] at this
        omega
theorem sum_pos {zs : List Int} (h0 : zs.length ≠ 0) (hz : ∀ z ∈ zs, 1 ≤ z ∧ z ≤ 1048576) : 1 ≤ sumI zs := by
  cases zs with
  | nil => exact absurd rfl h0
  | cons x t =>
    have h1 := hz x (by simp)
    have h2 := sumI_bound t 1048576 (fun z h => by have := hz z (by simp [h]); omega)
    rw [sumI_cons]; omega
theorem partsL_bound (total : Int) (zs : List Int) (ht0 : 0 ≤ total) (ht1 : total ≤ 65536) (hz : ∀ z ∈ zs, 1 ≤ z ∧ z ≤ 1048576) (hS : 1 ≤ sumI zs) : ∀ y ∈ partsL total zs, 0 ≤ y ∧ y ≤ 65536 * 1048576 := by
  intro y hy
  unfold partsL at hy
  obtain ⟨n, hn, rfl⟩ := List.mem_map.1 hy
  have h1 := hz n hn
  have h2 : 0 ≤ total * n := Int.mul_nonneg ht0 (by omega)
  have h3 : total * n ≤ 65536 * 1048576 := by
    have h3 := Int.mul_le_mul_of_nonneg_right ht1 (show 0 ≤ n by omega)
    have h4 := Int.mul_le_mul_of_nonneg_left h1.2 (show (0 : Int) ≤ 65536 by omega)
    omega
  exact ⟨Int.ediv_nonneg h2 (by omega), Int.le_trans (Int.ediv_le_self _ h2) h3⟩

theorem addAll_bound (ps : List Nat) : ∀ (l : List Int) (M : Int), (∀ x, 0 ≤ l.getD x 0 ∧ l.getD x 0 ≤ M) → 0 ≤ M → ∀ x, 0 ≤ (addAll ps l).getD x 0 ∧ (addAll ps l).getD x 0 ≤ M + ps.length := by
  induction ps with
  | nil => intro l M h hM x; have := h x; simp only [addAll, List.foldl_nil, List.length_nil]; omega
  | cons q t ih =>
    intro l M h hM x
    have := ih (addAt l q) (M + 1) (fun y => by
      unfold addAt
      by_cases hq : q < l.length
      · rw [getD_set _ _ _ _ hq]
        have h1 := h q; have h2 := h y
        split <;> omega
      · rw [List.set_eq_of_length_le (by omega)]
        have := h y; omega) (by omega) x
    simp only [addAll, List.foldl_cons, List.length_cons] at this ⊢
    omega
theorem getD_bound {l : List Int} {M : Int} (h : ∀ z ∈ l, 0 ≤ z ∧ z ≤ M) (hM : 0 ≤ M) (x : Nat) : 0 ≤ l.getD x 0 ∧ l.getD x 0 ≤ M := by
  by_cases hx : x < l.length
  · exact h _ (getD_mem l x hx)
  · rw [List.getD_eq_getElem?_getD, List.getElem?_eq_none (by omega)]; exact ⟨Int.le_refl _, hM⟩

end Go.Proofs.Ytbbmfpdlkogkfaa
end
section
namespace Go.Proofs.Ytbbmfpdlkogkfaa
open Go.RowKit Go.Lib Go.Sort Ieee

/-! ### The sum of a weight's number and another -/
theorem add_some {x y : Nat} {a : Int} (hx : GV x a) (hy : (double.read y).isNaN = false) : ∃ r, double.add x y = some r := by
  obtain ⟨s, K, L, h1, _⟩ := hx
  unfold Format.add
  rw [h1]
  rcases read_is y with ⟨s, t, hy'⟩ | ⟨s, hy'⟩ | ⟨s, m, i, hy', _⟩
  · rw [hy'] at hy; cases hy
  · rw [hy']; exact ⟨_, rfl⟩
  · rw [hy']; exact ⟨_, rfl⟩
def gsum (n : Int) (y : Nat) : Nat := (double.add (rt n) y).getD 0
theorem gsum_add (n : Int) {y : Nat} (hy : (double.read y).isNaN = false) : double.add (rt n) y = some (gsum n y) := by
  obtain ⟨r, h⟩ := add_some (rt_grid n) hy
  unfold gsum; rw [h]; rfl
/-- Grow's answer. -/
def growL (zs : List Int) (k : Nat) (y : Nat) : List Int := if (double.read y).isNaN then zs else zs.set k (wt (gsum (zs.getD k 0) y))
theorem growL_length (zs : List Int) (k y : Nat) : (growL zs k y).length = zs.length := by unfold growL; split <;> simp

theorem clone_c (b off cap : Nat) (zs : List Int) (w : World) (hn : zs.length ≤ 64) (hc : SI w b off zs) :
    Calls Try.prog 113 #[.slice (some ⟨b, off, none⟩) zs.length cap] w fun e w' => ∃ v, e = .returned v ∧ One1 w.heap.size w w' v zs := by
  have h := Any.slices_Clone_int cloneInt b off zs.length cap zs w (Nat.le_refl _) (by omega) hc
  rw [List.take_length] at h
  refine h.mono ?_
  rintro e w' ⟨v, rfl, h1, _, h2⟩
  exact ⟨v, rfl, h2, h1⟩

theorem One1.store {B g cap n x : Nat} {w0 w : World} {l : List Int} (h : One1 B w0 w (.slice (some ⟨g, 0, none⟩) n cap) l) (hB : B ≤ g) (hn : l.length = n) (y : Int) : One1 B w0 (w.setCell ⟨g, x, none⟩ (.int .i64 y)) (.slice (some ⟨g, 0, none⟩) n cap) (l.set x y) := by
  subst hn
  obtain ⟨h1, h2⟩ := h
  refine ⟨h1.setCell hB _, ?_⟩
  have := (World.ownsRow.stored h2 x (.int .i64 y)).1
  unfold OI
  rw [List.length_set, List.map_set]
  exact this

set_option maxHeartbeats 4000000 in
theorem grow_ok (b off cap : Nat) (zs : List Int) (k y : Nat) (w : World) (hk : chk zs = 0) (hkn : k < zs.length) (hb : b < w.heap.size) (hc : SI w b off zs) :
    Calls Try.prog 102 #[.slice (some ⟨b, off, none⟩) zs.length cap, .int .i64 k, .float .f64 y] w fun e w' => ∃ v, e = .returned (.tuple #[v, .int .i64 0]) ∧ One1 w.heap.size w w' v (growL zs k y) := by
  obtain ⟨hn0, hn64, hz⟩ := chk_zero hk
  have hcheck := check_c b off cap zs w (by omega) hc
  rw [hk] at hcheck
  have hkn' : (k : Int) < (zs.length : Int) := by omega
  have hclone : ∀ w1, Below w.heap.size w w1 → Calls Try.prog 113 #[.slice (some ⟨b, off, none⟩) zs.length cap] w1 fun e w' => ∃ g cg, e = .returned (.slice (some ⟨g, 0, none⟩) zs.length cg) ∧ Hid (One1 w.heap.size w w' (.slice (some ⟨g, 0, none⟩) zs.length cg) zs ∧ w.heap.size ≤ g) ∧
      w'.cell? ⟨b, off + k, none⟩ = some (.int .i64 (zs.getD k 0)) ∧ (∃ u, w'.cell? ⟨g, k, none⟩ = some u) ∧ w'.frozen? ⟨g, k, none⟩ = false := by
    intro w1 hb1
    have hs1 := hb1.size
    have hc1 := SI.below hc hb1 hb
    refine (clone_c b off cap zs w1 hn64 hc1).mono ?_
    rintro e w2 ⟨v, rfl, hO⟩
    obtain ⟨g, cg, rfl, h1, h2, h3, h4⟩ := hO.2.form (by intro h; rw [h] at hn0; simp at hn0)
    refine ⟨g, cg, rfl, ⟨⟨hb1.trans (hO.1.mono hs1), hO.2.mono hs1⟩, by omega⟩, (SI.below hc1 hO.1 (by omega)) k hkn, ⟨_, by have := h3 k hkn; rwa [Nat.zero_add] at this⟩, h4 _⟩
  cases hn : (double.read y).isNaN
  · have hg : growL zs k y = zs.set k (wt (gsum (zs.getD k 0) y)) := by unfold growL; rw [hn]; rfl
    rw [hg]
    have hadd : ∀ w, (binOp .add 48 (.float .f64 (rt (zs.getD k 0))) (.float .f64 y)).run Try.prog w = .ok (.float .f64 (gsum (zs.getD k 0) y)) w := fun w => run_float_arith w .add _ .f64 _ _ _ (gsum_add _ hn)
    generalize zs.getD k 0 = z at hclone hadd ⊢
    generalize gsum z y = gz at hadd ⊢
    have hrat := ratio_c z
    have hwei := weight_c gz
    generalize rt z = rz at hadd hrat
    generalize wt gz = wz at hwei ⊢
    clear hk hc hz hg
    go_enter Try.func102, Try.ntmps102
    go_wp2_with (first
      | (go_at_call 112; refine hcheck.mono ?_; rintro e w1 ⟨rfl, hb1⟩)
      | (go_at_call 113; refine (hclone _ (by assumption)).mono ?_; rintro e w2 ⟨g, cg, rfl, hO, hcell, ⟨u, hcu⟩, hfu⟩)
      | (go_at_call 114; refine (isnan_c _ _).mono ?_; rintro e w3 ⟨rfl, rfl⟩; rw [hn])
      | (go_at_call 116; refine (hrat _).mono ?_; rintro e w3 ⟨rfl, rfl⟩)
      | (go_at_call 115; refine (hwei _).mono ?_; rintro e w3 ⟨rfl, rfl⟩))
    go_ret2
    exact ⟨_, rfl, One1.store hO.out.1 hO.out.2 rfl wz⟩
  · have hg : growL zs k y = zs := by unfold growL; rw [hn]; rfl
    rw [hg]
    generalize zs.getD k 0 = z at hclone
    clear hk hc hz hg
    go_enter Try.func102, Try.ntmps102
    go_wp2_with (first
      | (go_at_call 112; refine hcheck.mono ?_; rintro e w1 ⟨rfl, hb1⟩)
      | (go_at_call 113; refine (hclone _ (by assumption)).mono ?_; rintro e w2 ⟨g, cg, rfl, hO, hcell, ⟨u, hcu⟩, hfu⟩)
      | (go_at_call 114; refine (isnan_c _ _).mono ?_; rintro e w3 ⟨rfl, rfl⟩; rw [hn]))
    go_ret2
    exact ⟨_, rfl, hO.out.1⟩

/-! ### Ints -/
theorem ints_lens (a1 a2 : Option Addr) (n1 c1 n2 c2 : Nat) (w : World) (hne : n1 ≠ n2) :
    Calls Try.prog 26 #[.slice a1 n1 c1, .slice a2 n2 c2] w fun e w' => e = .returned (.bool false) ∧ w = w' := by
  have hne' : ¬ (n1 : Int) = (n2 : Int) := by omega
  go_enter Try.func26, Try.ntmps26
  go_wp2
  all_goals (go_ret; exact ⟨rfl, rfl⟩)
theorem ints_none (a1 a2 : Option Addr) (c1 c2 : Nat) (w : World) :
    Calls Try.prog 26 #[.slice a1 0 c1, .slice a2 0 c2] w fun e w' => e = .returned (.bool true) ∧ w = w' := by
  go_enter Try.func26, Try.ntmps26
  go_wp2
  refine wp_loop_rounds 1 ?_
  rw [rounds_succ]
  go_wp2
  go_ret
  exact ⟨rfl, rfl⟩

theorem take_eq_next {l1 l2 : List Int} {k : Nat} (h : l1.take k = l2.take k) (h1 : k < l1.length) (h2 : k < l2.length) (he : l1.getD k 0 = l2.getD k 0) : l1.take (k + 1) = l2.take (k + 1) := by
  rw [take_next l1 k h1, take_next l2 k h2, h, he]

set_option maxHeartbeats 4000000 in
theorem ints_c (b1 o1 c1 b2 o2 c2 : Nat) (l1 l2 : List Int) (w : World) (hn : l1.length ≤ 64) (h1 : SI w b1 o1 l1) (h2 : SI w b2 o2 l2) :
    Calls Try.prog 26 #[.slice (some ⟨b1, o1, none⟩) l1.length c1, .slice (some ⟨b2, o2, none⟩) l2.length c2] w fun e w' => e = .returned (.bool (decide (l1 = l2))) ∧ Below w.heap.size w w' := by
  by_cases hne : l1.length = l2.length
  case neg =>
    rw [decide_eq_false (by intro h; exact hne (by rw [h]))]
    exact (ints_lens _ _ _ _ _ _ _ hne).mono fun e w' ⟨h, hw⟩ => ⟨h, hw ▸ Below.refl _ _⟩
  have H1 := Lib.hid h1
  have H2 := Lib.hid h2
  generalize hR : decide (l1 = l2) = R
  have hRR := Lib.hid hR
  clear h1 h2 hR
  rw [← hne]
  have hne2 := Lib.hid hne
  clear hne
  go_enter Try.func26, Try.ntmps26
  go_wp2
  go_loopw [5] (fun i wr => ∃ k : Nat, k ≤ l1.length ∧ i = .int .i64 k ∧ Hid (l1.take k = l2.take k) ∧ Aside (Below w.heap.size w wr ∧ wr.heap = w.heap)) (fun i _ => l1.length - (intOf i).toNat)
  case atStart => exact ⟨0, Nat.zero_le _, rfl, rfl, Below.refl _ _, rfl⟩
  case round =>
    obtain ⟨k, hk, rfl, hall, hW⟩ := hrel
    have hW0 := Lib.hid hW
    clear hW
    by_cases hlt : k < l1.length
    · have hlt' : (k : Int) < (l1.length : Int) := by omega
      have hlt2 : k < l2.length := by have := hne2.out; omega
      have hc1 : wr.cell? ⟨b1, o1 + k, none⟩ = some (.int .i64 (l1.getD k 0)) := by rw [← H1.out k hlt]; unfold World.cell?; rw [hW0.out.2]
      have hc2 : wr.cell? ⟨b2, o2 + k, none⟩ = some (.int .i64 (l2.getD k 0)) := by rw [← H2.out k hlt2]; unfold World.cell?; rw [hW0.out.2]
      by_cases he : l1.getD k 0 = l2.getD k 0
      · have hnx := Lib.hid (take_eq_next hall.out hlt hlt2 he)
        rw [← he] at hc2
        generalize l1.getD k 0 = x at hc1 hc2
        clear he hlt2
        go_wp2
        go_quiet (fail)
        go_wp2
        go_roundw
        case rel => exact ⟨k + 1, by omega, by go_num, hnx.out, below_drewN' hW0.out.1 _, hW0.out.2⟩
        case measure => simp [intOf]; omega
      · have hR : R = false := by
          rw [← hRR.out, decide_eq_false]
          intro h; rw [h] at he; exact he rfl
        subst hR
        generalize l1.getD k 0 = x at hc1 he
        generalize l2.getD k 0 = y at hc2 he
        clear hlt2
        go_wp2
        go_quiet (fail)
        go_wp2
        go_ret
        exact ⟨rfl, below_drewN' hW0.out.1 _⟩
    · have hlt' : ¬ (k : Int) < (l1.length : Int) := by omega
      have hkn : k = l1.length := by omega
      have hR : R = true := by
        have h3 := hall.out
        have h4 := hne2.out
        rw [List.take_of_length_le (by omega), List.take_of_length_le (by omega)] at h3
        rw [← hRR.out, decide_eq_true h3]
      subst hR hkn
      clear hall
      go_wp2
      go_ret
      exact ⟨rfl, hW0.out.1⟩
end Go.Proofs.Ytbbmfpdlkogkfaa
end
section
namespace Go.Proofs.Ytbbmfpdlkogkfaa
open Go.RowKit Go.Lib Go.Sort Ieee

theorem lit_SI (W : World) (l : List Int) (t : TypeId) : SI (W.alloc (.cells (l.map (Value.int .i64)).toArray t)) W.heap.size 0 l := by
  intro j hj
  rw [World.cell?_alloc_at _ _ _ _ rfl]
  simp [List.getD_eq_getElem?_getD, hj]
theorem lit_below (W : World) (o : Obj) : RowKit.Below W.heap.size W (W.alloc o) := (RowKit.Below.refl _ _).alloc (Nat.le_refl _) o

theorem grow_lit (l r : List Int) (k y : Nat) (W : World) (hk : chk l = 0) (hkn : k < l.length) (hr : growL l k y = r) :
    Calls Try.prog 102 #[.slice (some ⟨W.heap.size, 0, none⟩) l.length l.length, .int .i64 k, .float .f64 y] (W.alloc (.cells (l.map (Value.int .i64)).toArray 3)) fun e w' => ∃ g c, e = .returned (.tuple #[.slice (some ⟨g, 0, none⟩) r.length c, .int .i64 0]) ∧ Hid (RowKit.Below W.heap.size W w' ∧ W.heap.size ≤ g ∧ g < w'.heap.size ∧ SI w' g 0 r) := by
  refine (grow_ok W.heap.size 0 l.length l k y _ hk hkn (by simp) (lit_SI W l _)).mono ?_
  rintro e w' ⟨v, rfl, h1, h2⟩
  have hl := growL_length l k y
  rw [hr] at h2 hl
  have h0 := (chk_zero hk).1
  obtain ⟨g, c, rfl, h3, h4, h5, _⟩ := h2.form (by intro h; rw [h] at hl; simp at hl; omega)
  refine ⟨g, c, rfl, (lit_below W _).trans (h1.mono (by simp)), ?_, h4, h5⟩
  simp at h3; omega

theorem ints_lit (l : List Int) (b c : Nat) (W : World) (hn : l.length ≤ 64) (hb : b < W.heap.size) (h : SI W b 0 l) :
    Calls Try.prog 26 #[.slice (some ⟨b, 0, none⟩) l.length c, .slice (some ⟨W.heap.size, 0, none⟩) l.length l.length] (W.alloc (.cells (l.map (Value.int .i64)).toArray 3)) fun e w' => e = .returned (.bool true) ∧ RowKit.Below W.heap.size W w' := by
  refine (ints_c b 0 c W.heap.size 0 l.length l l _ hn (SI.below h (lit_below W _) hb) (lit_SI W l _)).mono ?_
  rintro e w' ⟨rfl, h1⟩
  exact ⟨by rw [decide_eq_true rfl], (lit_below W _).trans (h1.mono (by simp))⟩

theorem ex1 : splitL 10 [1, 1, 1] = [4, 3, 3] := by decide +kernel
theorem ex2 : splitL 7 [2, 1] = [5, 2] := by decide +kernel
theorem ex3 : growL [65536] 0 18442240474082181120 = [1] := by decide +kernel
theorem ex4 : wt 4602678819172646912 = 32768 := by decide +kernel

end Go.Proofs.Ytbbmfpdlkogkfaa
end
section
namespace Go.Proofs.Ytbbmfpdlkogkfaa
open Go.RowKit Go.Lib Go.Sort Ieee

end Go.Proofs.Ytbbmfpdlkogkfaa
end
section
namespace Go.Proofs.Ytbbmfpdlkogkfaa
open Go.RowKit Go.Lib Go.Sort Ieee

/-- Grow's number. -/
def growE (zs : List Int) (k : Int) : Int := if chk zs ≠ 0 then chk zs else if k < 0 ∨ (zs.length : Int) ≤ k then 1 else 0
def growR (zs : List Int) (k : Int) (y : Nat) : List Int := if growE zs k = 0 then growL zs k.toNat y else []

theorem chk_nil : chk [] = 1 := rfl
theorem growE_ok {zs : List Int} {k : Int} (h : growE zs k = 0) : chk zs = 0 ∧ 0 ≤ k ∧ k < zs.length := by
  unfold growE at h
  split at h
  · rename_i h1; exact absurd h h1
  · rename_i h1
    split at h
    · cases h
    · rename_i h2; exact ⟨by omega, by omega, by omega⟩

theorem grow_err (b off cap : Nat) (zs : List Int) (k : Int) (y : Nat) (w : World) (hlen : zs.length ≤ 9223372036854775807) (hE : growE zs k ≠ 0) (hc : SI w b off zs) :
    Calls Try.prog 102 #[.slice (some ⟨b, off, none⟩) zs.length cap, .int .i64 k, .float .f64 y] w fun e w' => e = .returned (.tuple #[.slice none 0 0, .int .i64 (growE zs k)]) ∧ RowKit.Below w.heap.size w w' := by
  have hcheck := check_c b off cap zs w hlen hc
  by_cases h : chk zs = 0
  · have hE' : growE zs k = 1 := by
      unfold growE at hE ⊢
      rw [if_neg (by omega)] at hE ⊢
      split
      · rfl
      · rename_i h2; rw [if_neg h2] at hE; exact absurd rfl hE
    have hk : k < 0 ∨ (zs.length : Int) ≤ k := by
      unfold growE at hE
      rw [if_neg (by omega)] at hE
      by_cases h2 : k < 0 ∨ (zs.length : Int) ≤ k
      · exact h2
      · rw [if_neg h2] at hE; exact absurd rfl hE
    rw [hE']
    rw [h] at hcheck
    clear hE hE' hc h
    by_cases h1 : k < 0
    · clear hk
      go_enter Try.func102, Try.ntmps102
      go_wp2_with (go_at_call 112; refine hcheck.mono ?_; rintro e w1 ⟨rfl, hb1⟩)
      go_ret2
      exact ⟨rfl, hb1⟩
    · have h2 : (zs.length : Int) ≤ k := by omega
      clear hk
      go_enter Try.func102, Try.ntmps102
      go_wp2_with (go_at_call 112; refine hcheck.mono ?_; rintro e w1 ⟨rfl, hb1⟩)
      go_ret2
      exact ⟨rfl, hb1⟩
  · have hE' : growE zs k = chk zs := by unfold growE; rw [if_pos h]
    rw [hE']
    generalize chk zs = c at hcheck h
    clear hE hE' hc
    go_enter Try.func102, Try.ntmps102
    go_wp2_with (go_at_call 112; refine hcheck.mono ?_; rintro e w1 ⟨rfl, hb1⟩)
    go_ret2
    exact ⟨rfl, hb1⟩
theorem grow_nil (a : Option Addr) (cap : Nat) (k : Int) (y : Nat) (w : World) :
    Calls Try.prog 102 #[.slice a 0 cap, .int .i64 k, .float .f64 y] w fun e w' => e = .returned (.tuple #[.slice none 0 0, .int .i64 1]) ∧ w = w' := by
  go_enter Try.func102, Try.ntmps102
  go_wp2_with (go_at_call 112; refine (check_nil _ _ _).mono ?_; rintro e w1 ⟨rfl, rfl⟩)
  go_ret2
  exact ⟨rfl, rfl⟩

theorem grow_c (v : Value) (zs : List Int) (k : Int) (y : Nat) (w : World) (hv : IsInts w v zs) :
    Calls Try.prog 102 #[v, .int .i64 k, .float .f64 y] w fun e w' => ∃ v', e = .returned (.tuple #[v', .int .i64 (growE zs k)]) ∧ One1 w.heap.size w w' v' (growR zs k y) := by
  rcases hv with ⟨rfl, a, c, rfl⟩ | ⟨b, off, c, rfl, hb, hlen, hne, hc⟩
  · refine (grow_nil a c k y w).mono ?_
    rintro e w' ⟨rfl, rfl⟩
    exact ⟨_, rfl, Below.refl _ _, OI.nil _ _⟩
  · by_cases hE : growE zs k = 0
    · obtain ⟨h1, h2, h3⟩ := growE_ok hE
      have h := grow_ok b off c zs k.toNat y w h1 (by omega) hb hc
      rw [Int.toNat_of_nonneg h2] at h
      refine h.mono ?_
      rintro e w' ⟨v', rfl, hO⟩
      exact ⟨v', by rw [hE], by unfold growR; rw [if_pos hE]; exact hO⟩
    · refine (grow_err b off c zs k y w hlen hE hc).mono ?_
      rintro e w' ⟨rfl, hB⟩
      exact ⟨_, rfl, hB, by unfold growR; rw [if_neg hE]; exact OI.nil _ _⟩

/-! ### The reference's -/
theorem rgrow_err (b off cap : Nat) (zs : List Int) (k : Int) (y : Nat) (w : World) (hlen : zs.length ≤ 9223372036854775807) (hE : growE zs k ≠ 0) (hc : SI w b off zs) :
    Calls Try.prog 82 #[.slice (some ⟨b, off, none⟩) zs.length cap, .int .i64 k, .float .f64 y] w fun e w' => e = .returned (.tuple #[.slice none 0 0, .int .i64 (growE zs k)]) ∧ w = w' := by
  have hcheck := rcheck_c b off cap zs w hlen hc
  by_cases h : chk zs = 0
  · have hE' : growE zs k = 1 := by
      unfold growE at hE ⊢
      rw [if_neg (by omega)] at hE ⊢
      split
      · rfl
      · rename_i h2; rw [if_neg h2] at hE; exact absurd rfl hE
    have hk : k < 0 ∨ (zs.length : Int) ≤ k := by
      unfold growE at hE
      rw [if_neg (by omega)] at hE
      by_cases h2 : k < 0 ∨ (zs.length : Int) ≤ k
      · exact h2
      · rw [if_neg h2] at hE; exact absurd rfl hE
    rw [hE']
    rw [h] at hcheck
    clear hE hE' hc h
    by_cases h1 : k < 0
    · clear hk
      go_enter Try.func82, Try.ntmps82
      go_wp2_with (go_at_call 103; refine hcheck.mono ?_; rintro e w1 ⟨rfl, rfl⟩)
      go_ret2
      exact ⟨rfl, rfl⟩
    · have h2 : (zs.length : Int) ≤ k := by omega
      clear hk
      go_enter Try.func82, Try.ntmps82
      go_wp2_with (go_at_call 103; refine hcheck.mono ?_; rintro e w1 ⟨rfl, rfl⟩)
      go_ret2
      exact ⟨rfl, rfl⟩
  · have hE' : growE zs k = chk zs := by unfold growE; rw [if_pos h]
    rw [hE']
    generalize chk zs = c at hcheck h
    clear hE hE' hc
    go_enter Try.func82, Try.ntmps82
    go_wp2_with (go_at_call 103; refine hcheck.mono ?_; rintro e w1 ⟨rfl, rfl⟩)
    go_ret2
    exact ⟨rfl, rfl⟩
theorem rgrow_nil (a : Option Addr) (cap : Nat) (k : Int) (y : Nat) (w : World) :
    Calls Try.prog 82 #[.slice a 0 cap, .int .i64 k, .float .f64 y] w fun e w' => e = .returned (.tuple #[.slice none 0 0, .int .i64 1]) ∧ w = w' := by
  go_enter Try.func82, Try.ntmps82
  go_wp2_with (go_at_call 103; refine (rcheck_nil _ _ _).mono ?_; rintro e w1 ⟨rfl, rfl⟩)
  go_ret2
  exact ⟨rfl, rfl⟩

set_option maxHeartbeats 4000000 in
set_option maxRecDepth 100000 in
theorem rgrow_ok (b off cap : Nat) (zs : List Int) (k y : Nat) (w : World) (hk : chk zs = 0) (hkn : k < zs.length) (hb : b < w.heap.size) (hc : SI w b off zs) :
    Calls Try.prog 82 #[.slice (some ⟨b, off, none⟩) zs.length cap, .int .i64 k, .float .f64 y] w fun e w' => ∃ v, e = .returned (.tuple #[v, .int .i64 0]) ∧ One1 w.heap.size w w' v (growL zs k y) := by
  obtain ⟨i0, hi, hz0, hz1, hz2⟩ := info_parts info3
  obtain ⟨hn0, hn64, hz⟩ := chk_zero hk
  have hcheck := rcheck_c b off cap zs w (by omega) hc
  rw [hk] at hcheck
  have hkn' : (k : Int) < (zs.length : Int) := by omega
  have hC := Lib.hid hc
  have hW1 : SI (w.alloc (.cells #[] 3)) b off zs := SI.below hc (lit_below w _) hb
  have hnews : ∀ j u, (zs.map (Value.int .i64))[j]? = some u → (w.alloc (.cells #[] 3)).cell? ((⟨b, off, none⟩ : Addr).add j) = some u := by
    intro j u hj
    rw [List.getElem?_map] at hj
    cases hzj : zs[j]? with
    | none => rw [hzj] at hj; cases hj
    | some z =>
      rw [hzj] at hj
      have hjl := (List.getElem?_eq_some_iff.1 hzj).1
      have h1 := hW1 j hjl
      rw [List.getD_eq_getElem?_getD, hzj] at h1
      rw [show ((⟨b, off, none⟩ : Addr).add j) = ⟨b, off + j, none⟩ by unfold Addr.add; split <;> simp_all, h1]
      exact hj
  have hNEWS := Lib.hid hnews
  have hown0 : (w.alloc (.cells #[] 3)).ownsRow w.heap.size 3 1 (.slice (some ⟨w.heap.size, 0, none⟩) 0 0) 0 [] :=
    World.ownsRow_made w #[] 0 (Nat.le_refl _) (by unfold maxLen; omega) rfl
  have hOWN := Lib.hid hown0
  have happ : ∀ (v' : Value) (w1 : World), w1.ownsRow w.heap.size 3 1 v' (0 + zs.length) ([] ++ zs.map (Value.int .i64)) → (w.alloc (.cells #[] 3)).grownBy w1 (Value.ownBlock (.slice (some ⟨w.heap.size, 0, none⟩) 0 0)) →
      ∃ g cg, v' = .slice (some ⟨g, 0, none⟩) zs.length cg ∧ Hid (One1 w.heap.size w w1 (.slice (some ⟨g, 0, none⟩) zs.length cg) zs ∧ w.heap.size ≤ g) ∧ w1.cell? ⟨b, off + k, none⟩ = some (.int .i64 (zs.getD k 0)) ∧ (∃ u, w1.cell? ⟨g, k, none⟩ = some u) ∧ w1.frozen? ⟨g, k, none⟩ = false := by
    intro v' w1 h1 h2
    rw [Nat.zero_add, List.nil_append] at h1
    have hO : OI w1 w.heap.size v' zs := h1
    have hB : RowKit.Below w.heap.size w w1 := (lit_below w (.cells #[] 3)).grown h2 (by simp) (fun j hj => by simp [Value.ownBlock] at hj; omega)
    obtain ⟨g, cg, rfl, g1, g2, g3, g4⟩ := hO.form (by intro h; rw [h] at hn0; simp at hn0)
    exact ⟨g, cg, rfl, ⟨⟨hB, hO⟩, g1⟩, (SI.below hc hB hb) k hkn, ⟨_, by have := g3 k hkn; rwa [Nat.zero_add] at this⟩, g4 _⟩
  have hAPP := Lib.hid happ
  clear happ hown0 hnews hW1 hc
  have heq : (FloatKind.f64.format.order y y == some .eq) = !(double.read y).isNaN := by
    have := order_self y
    rw [← this]
    show _ = !(!_)
    rw [Bool.not_not]; rfl
  cases hn : (double.read y).isNaN
  · rw [hn] at heq
    have hg : growL zs k y = zs.set k (wt (gsum (zs.getD k 0) y)) := by unfold growL; rw [hn]; rfl
    rw [hg]
    have hadd : ∀ w, (binOp .add 48 (.float .f64 (rt (zs.getD k 0))) (.float .f64 y)).run Try.prog w = .ok (.float .f64 (gsum (zs.getD k 0) y)) w := fun w => run_float_arith w .add _ .f64 _ _ _ (gsum_add _ hn)
    generalize zs.getD k 0 = z at hAPP hadd ⊢
    generalize gsum z y = gz at hadd ⊢
    have hrat := rratio_c z
    have hwei := rweight_c gz
    generalize rt z = rz at hadd hrat
    generalize wt gz = wz at hwei ⊢
    clear hk hz hg
    go_enter Try.func82, Try.ntmps82
    go_wp2_with (first
      | (go_at_call 103; refine hcheck.mono ?_; rintro e w1 ⟨rfl, rfl⟩)
      | (at_builtin; refine wpList_append_own_at _ rfl (.tmp 22) (.tmp 23) 34 rfl w.heap.size 3 i0 (.int .i64 0) 1 8 Try.underlying34 hi hz0 hz1 hz2 rfl (by decide) _ 0 [] rfl hOWN.out ⟨b, off, none⟩ zs.length cap (zs.map (Value.int .i64)) rfl (by simp) hNEWS.out (by intro u hu; obtain ⟨z, _, rfl⟩ := List.mem_map.1 hu; rfl) (by unfold maxLen; omega) (by omega) (by simp) ?_
         intro v' w1 hown' hgrow _ _
         obtain ⟨g, cg, rfl, hO, hcell, ⟨u, hcu⟩, hfu⟩ := hAPP.out v' w1 hown' hgrow
         clear hown' hgrow)
      | (go_at_call 105; refine (hrat _).mono ?_; rintro e w3 ⟨rfl, rfl⟩)
      | (go_at_call 104; refine (hwei _).mono ?_; rintro e w3 ⟨rfl, rfl⟩))
    go_ret2
    exact ⟨_, rfl, One1.store hO.out.1 hO.out.2 rfl wz⟩
  · rw [hn] at heq
    have hg : growL zs k y = zs := by unfold growL; rw [hn]; rfl
    rw [hg]
    generalize zs.getD k 0 = z at hAPP
    clear hk hz hg
    go_enter Try.func82, Try.ntmps82
    go_wp2_with (first
      | (go_at_call 103; refine hcheck.mono ?_; rintro e w1 ⟨rfl, rfl⟩)
      | (at_builtin; refine wpList_append_own_at _ rfl (.tmp 22) (.tmp 23) 34 rfl w.heap.size 3 i0 (.int .i64 0) 1 8 Try.underlying34 hi hz0 hz1 hz2 rfl (by decide) _ 0 [] rfl hOWN.out ⟨b, off, none⟩ zs.length cap (zs.map (Value.int .i64)) rfl (by simp) hNEWS.out (by intro u hu; obtain ⟨z, _, rfl⟩ := List.mem_map.1 hu; rfl) (by unfold maxLen; omega) (by omega) (by simp) ?_
         intro v' w1 hown' hgrow _ _
         obtain ⟨g, cg, rfl, hO, hcell, ⟨u, hcu⟩, hfu⟩ := hAPP.out v' w1 hown' hgrow
         clear hown' hgrow))
    go_ret2
    exact ⟨_, rfl, hO.out.1⟩

theorem rgrow_c (v : Value) (zs : List Int) (k : Int) (y : Nat) (w : World) (hv : IsInts w v zs) :
    Calls Try.prog 82 #[v, .int .i64 k, .float .f64 y] w fun e w' => ∃ v', e = .returned (.tuple #[v', .int .i64 (growE zs k)]) ∧ One1 w.heap.size w w' v' (growR zs k y) := by
  rcases hv with ⟨rfl, a, c, rfl⟩ | ⟨b, off, c, rfl, hb, hlen, hne, hc⟩
  · refine (rgrow_nil a c k y w).mono ?_
    rintro e w' ⟨rfl, rfl⟩
    exact ⟨_, rfl, Below.refl _ _, OI.nil _ _⟩
  · by_cases hE : growE zs k = 0
    · obtain ⟨h1, h2, h3⟩ := growE_ok hE
      have h := rgrow_ok b off c zs k.toNat y w h1 (by omega) hb hc
      rw [Int.toNat_of_nonneg h2] at h
      refine h.mono ?_
      rintro e w' ⟨v', rfl, hO⟩
      exact ⟨v', by rw [hE], by unfold growR; rw [if_pos hE]; exact hO⟩
    · refine (rgrow_err b off c zs k y w hlen hE hc).mono ?_
      rintro e w' ⟨rfl, rfl⟩
      exact ⟨_, rfl, Below.refl _ _, by unfold growR; rw [if_neg hE]; exact OI.nil _ _⟩
end Go.Proofs.Ytbbmfpdlkogkfaa
end
