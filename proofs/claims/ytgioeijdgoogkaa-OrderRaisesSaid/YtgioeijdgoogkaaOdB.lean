/- Bands, and what stands above what, plainly. -/
import Derived.Test.YtgioeijdgoogkaaOdA
namespace Go.Proofs.Ytgioeijdgoogkaa.Od
/-- The greatest band of some, from one on to its owners. -/
def bdo (l : List It) : Nat → Option Int → Int
  | 0, _ => 0
  | _ + 1, none => 0
  | k + 1, some c => max (it l c).b (bdo l k (ow l c))
def bd (l : List It) (c : Int) : Int := bdo l l.length (some c)
theorem bdo_none (l : List It) (k : Nat) : bdo l k none = 0 := by cases k <;> rfl
theorem bdo_more {l : List It} : ∀ {k m : Nat} {o : Option Int}, o.bind (itr (ow l) k) = none → k ≤ m → bdo l m o = bdo l k o
  | k, m, none, _, _ => by rw [bdo_none, bdo_none]
  | 0, m, some c, h, _ => by simp [itr] at h
  | k + 1, 0, some c, _, h => by omega
  | k + 1, m + 1, some c, h, hk => by
    simp only [bdo]
    rw [bdo_more (k := k) (m := m) (o := ow l c) (by simpa [itr] using h) (by omega)]
theorem len_pos {l : List It} {c : Int} (hc : c ∈ cl l) : 0 < l.length := by
  have := List.length_pos_of_mem hc; unfold cl at this; rwa [List.length_map] at this
theorem bd_step {l : List It} {c : Int} (hc : c ∈ cl l) : bd l c = max (it l c).b (bdo l (l.length - 1) (ow l c)) ∧ (ow l c).bind (itr (ow l) (l.length - 1)) = none := by
  have h0 := len_pos hc
  have he := ow_ends hc
  obtain ⟨n, hn⟩ : ∃ n, l.length = n + 1 := ⟨l.length - 1, by omega⟩
  unfold bd
  rw [hn] at he ⊢
  exact ⟨rfl, he⟩
theorem bd_none {l : List It} {c : Int} (hc : c ∈ cl l) (h : ow l c = none) : bd l c = max (it l c).b 0 := by rw [(bd_step hc).1, h, bdo_none]
theorem bd_some {l : List It} {c d : Int} (hc : c ∈ cl l) (h : ow l c = some d) : bd l c = max (it l c).b (bd l d) := by
  obtain ⟨h1, h2⟩ := bd_step hc
  rw [h1, ← bdo_more h2 (show l.length - 1 ≤ l.length by omega), h]
  rfl
theorem bd_le {l : List It} {c : Int} (hc : c ∈ cl l) : (it l c).b ≤ bd l c := by rw [(bd_step hc).1]; exact Int.le_max_left ..
theorem bd_up {l : List It} {c d : Int} (hc : c ∈ cl l) (h : ow l c = some d) : bd l d ≤ bd l c := by rw [bd_some hc h]; exact Int.le_max_right ..
/-- One comes ahead of another one. -/
def LT (l : List It) (c d : Int) : Prop := bd l c < bd l d ∨ (bd l c = bd l d ∧ ((it l c).r < (it l d).r ∨ ((it l c).r = (it l d).r ∧ yc l d c = true)))
theorem LT.not {l : List It} {c d : Int} (h : LT l c d) (h' : LT l d c) : False := by
  rcases h with h | ⟨h1, h | ⟨h2, h3⟩⟩ <;> rcases h' with k | ⟨k1, k | ⟨k2, k3⟩⟩ <;> try omega
  rw [yc_asym h3] at k3; cases k3
theorem LT.bd {l : List It} {c d : Int} (h : LT l c d) : bd l c ≤ bd l d := by rcases h with h | ⟨h, _⟩ <;> omega
theorem LT.tot {l : List It} (hd : Dis l) {c d : Int} (hc : c ∈ cl l) (hdd : d ∈ cl l) (hne : c ≠ d) : LT l c d ∨ LT l d c := by
  unfold LT
  by_cases h1 : Od.bd l c = Od.bd l d
  · by_cases h2 : (it l c).r = (it l d).r
    · cases h3 : yc l d c with
      | true => exact .inl (.inr ⟨h1, .inr ⟨h2, rfl⟩⟩)
      | false =>
        cases h4 : yc l c d with
        | true => exact .inr (.inr ⟨h1.symm, .inr ⟨h2.symm, rfl⟩⟩)
        | false => exact absurd (yc_total hd hc hdd h4 h3) hne
    · rcases Int.lt_or_gt_of_ne h2 with h | h
      · exact .inl (.inr ⟨h1, .inl h⟩)
      · exact .inr (.inr ⟨h1.symm, .inl h⟩)
  · rcases Int.lt_or_gt_of_ne h1 with h | h
    · exact .inl (.inl h)
    · exact .inr (.inl h)
/-- Its owner is taken, or it has none. -/
def Free (l : List It) (done : List Int) (c : Int) : Prop := ∀ d, ow l c = some d → d ∈ done
/-- The next one, when these are taken. -/
def Nxt (l : List It) (done : List Int) (c : Int) : Prop := c ∈ cl l ∧ c ∉ done ∧ Free l done c ∧ ∀ d, d ∈ cl l → d ∉ done → Free l done d → d = c ∨ LT l c d
theorem Nxt.one {l : List It} {done : List Int} {c d : Int} (h : Nxt l done c) (k : Nxt l done d) : c = d := by
  obtain ⟨h1, h2, h3, h4⟩ := h
  obtain ⟨k1, k2, k3, k4⟩ := k
  rcases h4 d k1 k2 k3 with e | e
  · exact e.symm
  · rcases k4 c h1 h2 h3 with f | f
    · exact f
    · exact (e.not f).elim
/-- These clients, from the lowest. -/
def Ord (l : List It) (out : List Int) : Prop := out.length = l.length ∧ ∀ k c, out[k]? = some c → Nxt l (out.take k) c
theorem Ord.one {l : List It} {a b : List Int} (h : Ord l a) (k : Ord l b) : a = b := by
  have : ∀ n, a.take n = b.take n := by
    intro n
    induction n with
    | zero => rfl
    | succ n ih =>
      rw [List.take_add_one, List.take_add_one, ih]
      congr 1
      by_cases hn : n < l.length
      · have e1 : a[n]? = some (a[n]'(by rw [h.1]; exact hn)) := List.getElem?_eq_getElem _
        have e2 : b[n]? = some (b[n]'(by rw [k.1]; exact hn)) := List.getElem?_eq_getElem _
        have h1 := h.2 n _ e1
        have h2 := k.2 n _ e2
        rw [ih] at h1
        rw [e1, e2, h1.one h2]
      · rw [List.getElem?_eq_none (by rw [h.1]; omega), List.getElem?_eq_none (by rw [k.1]; omega)]
  have e := this l.length
  rw [List.take_of_length_le (by rw [h.1]; omega), List.take_of_length_le (by rw [k.1]; omega)] at e
  exact e
/-- Of those that aren't taken, one at the end of the way up is free. -/
theorem free_up {l : List It} {done : List Int} : ∀ {k : Nat} {c : Int}, itr (ow l) k c = none → c ∈ cl l → c ∉ done → ∃ y j, itr (ow l) j c = some y ∧ y ∈ cl l ∧ y ∉ done ∧ Free l done y ∧ bd l y ≤ bd l c
  | 0, c, h, _, _ => by simp [itr] at h
  | k + 1, c, h, hc, hd => by
    cases e : ow l c with
    | none => exact ⟨c, 0, rfl, hc, hd, ((fun d h => by rw [e] at h; cases h) : Free l done c), Int.le_refl _⟩
    | some d =>
      by_cases hdd : d ∈ done
      · exact ⟨c, 0, rfl, hc, hd, ((fun d' h => by rw [e] at h; injection h with h; subst h; exact hdd) : Free l done c), Int.le_refl _⟩
      · have h' : itr (ow l) k d = none := by simp only [itr, e] at h; simpa using h
        obtain ⟨y, j, h1, h2, h3, h4, h5⟩ := free_up h' (ow_cl c d e) hdd
        exact ⟨y, j + 1, by simp only [itr, e]; simpa using h1, h2, h3, h4, Int.le_trans h5 (bd_up hc e)⟩
theorem free_some {l : List It} {done : List Int} {c : Int} (hc : c ∈ cl l) (hd : c ∉ done) : ∃ y, y ∈ cl l ∧ y ∉ done ∧ Free l done y := by
  obtain ⟨y, _, _, h2, h3, h4, _⟩ := free_up (ow_ends hc) hc hd
  exact ⟨y, h2, h3, h4⟩
section
variable {l : List It} {out : List Int}
theorem Ord.mem (h : Ord l out) {c : Int} (hc : c ∈ out) : c ∈ cl l := by
  obtain ⟨k, hk⟩ := List.getElem?_of_mem hc
  exact (h.2 k c hk).1
theorem Ord.inj (h : Ord l out) {i j : Nat} {c : Int} (hi : out[i]? = some c) (hj : out[j]? = some c) : i = j := by
  have key : ∀ {i j : Nat}, i < j → out[i]? = some c → out[j]? = some c → False := fun {i j} hij hi hj =>
    (h.2 j c hj).2.1 (List.mem_of_getElem? (i := i) (by rw [List.getElem?_take_of_lt hij]; exact hi))
  rcases Nat.lt_trichotomy i j with e | e | e
  · exact (key e hi hj).elim
  · exact e
  · exact (key e hj hi).elim
theorem Ord.nodup (h : Ord l out) : out.Nodup := by
  show List.Pairwise _ out
  rw [List.pairwise_iff_getElem]
  intro i j hi hj hij e
  have := h.inj (List.getElem?_eq_getElem hi) ((List.getElem?_eq_getElem hj).trans (by rw [e]))
  omega
theorem Ord.all (h : Ord l out) {c : Int} (hc : c ∈ cl l) : c ∈ out := by
  apply Classical.byContradiction
  intro hn
  have h1 := nodup_le (a := c :: out) (b := cl l) (List.nodup_cons.2 ⟨hn, h.nodup⟩) (fun x hx => by
    rcases List.mem_cons.1 hx with rfl | hx
    · exact hc
    · exact h.mem hx)
  rw [List.length_cons, h.1] at h1
  unfold cl at h1
  rw [List.length_map] at h1
  omega
theorem Ord.rise1 (h : Ord l out) {k : Nat} {a b : Int} (ha : out[k]? = some a) (hb : out[k + 1]? = some b) : bd l a ≤ bd l b := by
  obtain ⟨b1, b2, b3, b4⟩ := h.2 _ b hb
  obtain ⟨a1, a2, a3, a4⟩ := h.2 _ a ha
  have e : out.take (k + 1) = out.take k ++ [a] := by rw [List.take_add_one, ha]; rfl
  rw [e] at b2 b3
  have n1 : b ∉ out.take k := fun h => b2 (List.mem_append_left _ h)
  have n2 : b ≠ a := fun h => b2 (by rw [h]; simp)
  by_cases hf : Free l (out.take k) b
  · rcases a4 b b1 n1 hf with e | e
    · exact absurd e n2
    · exact e.bd
  · have : ow l b = some a := by
      cases e2 : ow l b with
      | none => exact absurd (fun d hd => by rw [e2] at hd; cases hd) hf
      | some d =>
        have h1 := b3 d e2
        rw [List.mem_append, List.mem_singleton] at h1
        rcases h1 with h1 | h1
        · exact absurd (fun d' hd => by rw [e2] at hd; injection hd with hd; subst hd; exact h1) hf
        · rw [h1]
    exact bd_up b1 this
theorem Ord.rise (h : Ord l out) {j : Nat} : ∀ {i : Nat} {a b : Int}, i ≤ j → out[i]? = some a → out[j]? = some b → bd l a ≤ bd l b := by
  induction j with
  | zero => intro i a b hi ha hb; obtain rfl : i = 0 := by omega
            rw [ha] at hb; injection hb with hb; subst hb; exact Int.le_refl _
  | succ j ih =>
    intro i a b hi ha hb
    by_cases e : i = j + 1
    · subst e; rw [ha] at hb; injection hb with hb; subst hb; exact Int.le_refl _
    · obtain ⟨c, hc⟩ : ∃ c, out[j]? = some c := ⟨_, List.getElem?_eq_getElem (by have := (List.getElem?_eq_some_iff.1 hb).1; omega)⟩
      exact Int.le_trans (ih (by omega) ha hc) (h.rise1 hc hb)
/-- Each stands above its owner. -/
theorem Ord.above (h : Ord l out) {k : Nat} {a d : Int} (ha : out[k]? = some a) (hd : ow l a = some d) : ∃ j, j < k ∧ out[j]? = some d := by
  have := (h.2 k a ha).2.2.1 d hd
  obtain ⟨j, hj⟩ := List.getElem?_of_mem this
  have hl := (List.getElem?_eq_some_iff.1 hj).1
  rw [List.length_take] at hl
  exact ⟨j, by omega, by rwa [List.getElem?_take_of_lt (by omega)] at hj⟩
/-- What was raised last is the highest of its band, but for its own. -/
theorem Ord.top (h : Ord l out) {k i : Nat} {a x : Int} (ha : out[k]? = some a) (hx : out[i]? = some x) (hki : k < i) (hb : bd l x ≤ bd l a) (hr : ∀ y, y ∈ cl l → y ≠ a → (it l y).r < (it l a).r) : ∃ j, itr (ow l) j x = some a := by
  obtain ⟨a1, a2, a3, a4⟩ := h.2 k a ha
  have hx1 := (h.2 i x hx).1
  have hx2 : x ∉ out.take k := fun hm => by
    obtain ⟨j, hj⟩ := List.getElem?_of_mem hm
    have hl := (List.getElem?_eq_some_iff.1 hj).1
    rw [List.length_take] at hl
    rw [List.getElem?_take_of_lt (by omega)] at hj
    have := h.inj hj hx
    omega
  obtain ⟨y, j, h1, h2, h3, h4, h5⟩ := free_up (ow_ends hx1) hx1 hx2
  rcases a4 y h2 h3 h4 with e | e
  · exact ⟨j, e ▸ h1⟩
  · exfalso
    have hne : y ≠ a := by rintro rfl; exact e.not e
    have := hr y h2 hne
    rcases e with e | ⟨_, e | ⟨e, _⟩⟩ <;> omega
end
/-! ### another order of the things -/
theorem lk_turn {l m : List It} (hd : Dis l) (hm : Dis m) (h : ∀ t, t ∈ l ↔ t ∈ m) : lk l = lk m := by
  funext c
  cases e : lk l c with
  | some t =>
    obtain ⟨h1, rfl⟩ := lk_some e
    exact (hm.lk ((h t).1 h1)).symm
  | none =>
    cases e2 : lk m c with
    | none => rfl
    | some t =>
      obtain ⟨h1, rfl⟩ := lk_some e2
      rw [hd.lk ((h t).2 h1)] at e; cases e
theorem ord_turn {l m : List It} (hk : lk l = lk m) (hn : l.length = m.length) {out : List Int} (h : Ord l out) : Ord m out := by
  have hcl : ∀ c, c ∈ cl l ↔ c ∈ cl m := fun c => by rw [lk_mem, lk_mem, hk]
  have hit : it l = it m := by funext c; unfold it; rw [hk]
  have hyc : yc l = yc m := by funext a b; unfold yc; rw [hit]
  have hnx : nx l = nx m := by
    funext c; unfold nx; rw [hk]
    cases lk m c with
    | none => rfl
    | some t => simp only [hcl t.o]
  have hrb : ∀ f c k o, ringB l f c k o = ringB m f c k o := by
    intro f c k
    induction k with
    | zero => intro o; rfl
    | succ k ih =>
      intro o
      cases o with
      | none => rfl
      | some a => unfold ringB; rw [hyc, ih]
  have how : ow l = ow m := by funext c; unfold ow cutB; rw [hrb, hnx, hn]
  have hbo : ∀ k o, bdo l k o = bdo m k o := by
    intro k
    induction k with
    | zero => intro o; rfl
    | succ k ih =>
      intro o
      cases o with
      | none => rfl
      | some c => simp only [bdo]; rw [ih, how, hit]
  have hbd : bd l = bd m := by funext c; unfold bd; rw [hbo, hn]
  have hfr : ∀ d c, Free l d c ↔ Free m d c := fun d c => by unfold Free; rw [how]
  have hlt : ∀ c d, LT l c d ↔ LT m c d := fun c d => by unfold LT; rw [hbd, hit, hyc]
  refine ⟨h.1.trans hn, fun k c hc => ?_⟩
  obtain ⟨h1, h2, h3, h4⟩ := h.2 k c hc
  refine ⟨(hcl c).1 h1, h2, (hfr _ _).1 h3, fun d a1 a2 a3 => ?_⟩
  rcases h4 d ((hcl d).2 a1) a2 ((hfr _ _).2 a3) with e | e
  · exact .inl e
  · exact .inr ((hlt _ _).1 e)
/-! ### which things may be stacked -/
def okT (t : It) : Bool := decide (1 ≤ t.c ∧ 0 ≤ t.b ∧ t.b < 5 ∧ 0 ≤ t.r ∧ 0 ≤ t.n)
/-- What Check tells. -/
def ChkR (l : List It) (z : Int) : Prop := (128 < l.length ∧ z = 2) ∨ (¬ 128 < l.length ∧ (Dis l ∧ ∀ t ∈ l, okT t = true) ∧ z = 0) ∨ (¬ 128 < l.length ∧ ¬ (Dis l ∧ ∀ t ∈ l, okT t = true) ∧ z = 1)
theorem ChkR.one {l : List It} {y z : Int} (h : ChkR l y) (k : ChkR l z) : y = z := by
  rcases h with ⟨h1, rfl⟩ | ⟨h1, h2, rfl⟩ | ⟨h1, h2, rfl⟩ <;> rcases k with ⟨k1, rfl⟩ | ⟨k1, k2, rfl⟩ | ⟨k1, k2, rfl⟩ <;> first | rfl | (exact absurd k1 h1) | (exact absurd h1 k1) | (exact absurd h2 k2) | (exact absurd k2 h2)
theorem ChkR.good {l : List It} {z : Int} (h : ChkR l z) (hz : z = 0) : l.length ≤ 128 ∧ Dis l ∧ ∀ t ∈ l, okT t = true := by
  rcases h with ⟨h1, h2⟩ | ⟨h1, h2, _⟩ | ⟨h1, h2, h3⟩
  · omega
  · exact ⟨by omega, h2⟩
  · omega
theorem ChkR.turn {l m : List It} {z : Int} (hp : l.Perm m) (h : ChkR l z) : ChkR m z := by
  have e1 := hp.length_eq
  have e2 : Dis l ↔ Dis m := (hp.map It.c).nodup_iff
  have e3 : (∀ t ∈ l, okT t = true) ↔ ∀ t ∈ m, okT t = true := ⟨fun h t ht => h t (hp.mem_iff.2 ht), fun h t ht => h t (hp.mem_iff.1 ht)⟩
  unfold ChkR at *
  rw [e1, e2, e3] at h
  exact h
end Go.Proofs.Ytgioeijdgoogkaa.Od
