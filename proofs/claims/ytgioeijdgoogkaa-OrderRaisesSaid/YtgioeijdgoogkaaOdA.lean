/- Things that may be stacked, plainly: who owns whom, which rings are cut, bands, and what stands above what. -/
namespace Go.Proofs.Ytgioeijdgoogkaa.Od
/-- A thing: its client, band, owner, modal or not, when raised, when born. -/
structure It where
  c : Int
  b : Int
  o : Int
  m : Bool
  r : Int
  n : Int
deriving Inhabited
theorem nodup_le : ∀ {a b : List Int}, a.Nodup → (∀ x ∈ a, x ∈ b) → a.length ≤ b.length
  | [], b, _, _ => Nat.zero_le _
  | x :: t, b, h, hs => by
    obtain ⟨h1, h2⟩ := List.nodup_cons.1 h
    have hx := hs x (List.mem_cons_self ..)
    have ih := nodup_le (b := b.erase x) h2 (fun y hy => (List.mem_erase_of_ne (show y ≠ x from fun e => h1 (by rw [← e]; exact hy))).2 (hs y (List.mem_cons_of_mem _ hy)))
    rw [List.length_erase_of_mem hx] at ih
    have : 0 < b.length := List.length_pos_of_mem hx
    simp only [List.length_cons]; omega
/-- The clients. -/
def cl (l : List It) : List Int := l.map (·.c)
/-- The thing of a client. -/
def lk (l : List It) (c : Int) : Option It := l.find? fun t => decide (t.c = c)
/-- Each client stands there once. -/
def Dis (l : List It) : Prop := (cl l).Nodup
theorem lk_some {l : List It} {c : Int} {t : It} (h : lk l c = some t) : t ∈ l ∧ t.c = c := ⟨List.mem_of_find?_eq_some h, by simpa using List.find?_some h⟩
theorem Dis.inj {l : List It} (h : Dis l) {i j : Nat} {x y : It} (hx : l[i]? = some x) (hy : l[j]? = some y) (e : x.c = y.c) : i = j := by
  have h1 : (cl l)[i]? = some x.c := by unfold cl; rw [List.getElem?_map, hx]; rfl
  have h2 : (cl l)[j]? = some y.c := by unfold cl; rw [List.getElem?_map, hy]; rfl
  obtain ⟨l1, -⟩ := List.getElem?_eq_some_iff.1 h1
  exact (List.getElem?_inj l1 h).1 (by rw [h1, h2, e])
theorem Dis.lk {l : List It} (h : Dis l) {t : It} (ht : t ∈ l) : lk l t.c = some t := by
  cases e : Od.lk l t.c with
  | none =>
    unfold Od.lk at e
    rw [List.find?_eq_none] at e
    have := e t ht; simp at this
  | some u =>
    obtain ⟨h1, h2⟩ := lk_some e
    obtain ⟨i, hi⟩ := List.getElem?_of_mem h1
    obtain ⟨j, hj⟩ := List.getElem?_of_mem ht
    obtain rfl := h.inj hi hj h2
    rw [hi] at hj; exact hj
theorem lk_mem {l : List It} {c : Int} : c ∈ cl l ↔ ∃ t, lk l c = some t := by
  constructor
  · intro h
    cases e : lk l c with
    | some t => exact ⟨t, rfl⟩
    | none =>
      unfold lk at e
      rw [List.find?_eq_none] at e
      obtain ⟨t, ht, rfl⟩ := List.mem_map.1 h
      have := e t ht; simp at this
  · rintro ⟨t, h⟩
    obtain ⟨h1, rfl⟩ := lk_some h
    exact List.mem_map.2 ⟨t, h1, rfl⟩
theorem lk_none {l : List It} {c : Int} (h : lk l c = none) : c ∉ cl l := fun h1 => by
  obtain ⟨t, ht⟩ := lk_mem.1 h1
  rw [h] at ht; cases ht
/-- The thing of a client, or none's. -/
def it (l : List It) (c : Int) : It := (lk l c).getD default
theorem Dis.it {l : List It} (h : Dis l) {t : It} (ht : t ∈ l) : it l t.c = t := by unfold Od.it; rw [h.lk ht]; rfl
/-- One is younger. -/
def yg (a b : It) : Bool := decide (b.n < a.n) || (decide (a.n = b.n) && decide (b.c < a.c))
theorem yg_iff {a b : It} : yg a b = true ↔ b.n < a.n ∨ (a.n = b.n ∧ b.c < a.c) := by unfold yg; simp
def yc (l : List It) (a b : Int) : Bool := yg (it l a) (it l b)
/-- Whose a client is, as it is told. -/
def nx (l : List It) (c : Int) : Option Int := match lk l c with
  | none => none
  | some t => if t.o = c then none else if t.o ∈ cl l then some t.o else none
theorem nx_in {l : List It} {c d : Int} (h : nx l c = some d) : d ∈ cl l ∧ d ≠ c ∧ c ∈ cl l ∧ d = (it l c).o := by
  unfold nx at h
  split at h
  · cases h
  · next t ht =>
    split at h
    · cases h
    · split at h
      · injection h with h; subst h
        exact ⟨by assumption, by assumption, lk_mem.2 ⟨_, ht⟩, by unfold it; rw [ht]; rfl⟩
      · cases h
/-- From owner to owner. -/
def itr (f : Int → Option Int) : Nat → Int → Option Int
  | 0, c => some c
  | k + 1, c => (f c).bind (itr f k)
theorem itr_add (f : Int → Option Int) : ∀ (j k : Nat) (c : Int), itr f (j + k) c = (itr f j c).bind (itr f k)
  | 0, k, c => by simp [itr]
  | j + 1, k, c => by
    rw [show j + 1 + k = (j + k) + 1 by omega]
    simp only [itr]
    cases h : f c with
    | none => rfl
    | some d => simpa using itr_add f j k d
theorem itr_le {f : Int → Option Int} {j k : Nat} {c : Int} (h : itr f j c = none) (hk : j ≤ k) : itr f k c = none := by
  obtain ⟨m, rfl⟩ := Nat.exists_eq_add_of_le hk
  rw [itr_add, h]; rfl
theorem itr_some {f : Int → Option Int} {j k : Nat} {c d : Int} (h : itr f k c = some d) (hj : j ≤ k) : ∃ a, itr f j c = some a := by
  cases e : itr f j c with
  | some a => exact ⟨a, rfl⟩
  | none => rw [itr_le e hj] at h; cases h
theorem itr_at {f : Int → Option Int} {j : Nat} {c a : Int} (h : itr f j c = some a) (k : Nat) : itr f (j + k) c = itr f k a := by rw [itr_add, h]; rfl
theorem itr_succ {f : Int → Option Int} {k : Nat} {c a : Int} (h : itr f k c = some a) : itr f (k + 1) c = f a := by
  rw [itr_at h 1]; simp only [itr]; cases f a <;> rfl
theorem itr_in {l : List It} {f : Int → Option Int} (hf : ∀ c d, f c = some d → d ∈ cl l) : ∀ {k : Nat} {c d : Int}, c ∈ cl l → itr f k c = some d → d ∈ cl l
  | 0, c, d, hc, h => by simp only [itr, Option.some.injEq] at h; exact h ▸ hc
  | k + 1, c, d, hc, h => by
    simp only [itr] at h
    cases e : f c with
    | none => rw [e] at h; cases h
    | some a => rw [e] at h; exact itr_in hf (hf c a e) h
/-- Round and round. -/
theorem itr_round {f : Int → Option Int} {m : Nat} {c : Int} (h : itr f m c = some c) : ∀ k : Nat, itr f (k * m) c = some c
  | 0 => by simp [itr]
  | k + 1 => by rw [Nat.succ_mul, Nat.add_comm, itr_at h]; exact itr_round h k
theorem itr_mod {f : Int → Option Int} {m : Nat} {c : Int} (h : itr f m c = some c) (k : Nat) : itr f k c = itr f (k % m) c := by
  have : itr f (m * (k / m) + k % m) c = itr f (k % m) c := itr_at (by rw [Nat.mul_comm]; exact itr_round h _) _
  rwa [Nat.div_add_mod] at this
/-- The steps from a client, as a row. -/
def way (f : Int → Option Int) (c : Int) (n : Nat) : List Int := (List.range n).filterMap fun k => itr f k c
theorem way_mem {f : Int → Option Int} {c : Int} {n : Nat} {x : Int} : x ∈ way f c n ↔ ∃ k, k < n ∧ itr f k c = some x := by unfold way; simp
theorem way_len {f : Int → Option Int} {c : Int} : ∀ {n : Nat}, (∀ k, k < n → itr f k c ≠ none) → (way f c n).length = n
  | 0, _ => rfl
  | n + 1, h => by
    unfold way
    rw [List.range_succ, List.filterMap_append, List.length_append]
    have := way_len (f := f) (c := c) (n := n) fun k hk => h k (by omega)
    unfold way at this
    rw [this]
    cases e : itr f n c with
    | none => exact absurd e (h n (by omega))
    | some a => simp [e]
theorem way_nodup {f : Int → Option Int} {c : Int} : ∀ {n : Nat}, (∀ i j a, i < j → j < n → itr f i c = some a → itr f j c ≠ some a) → (way f c n).Nodup
  | 0, _ => by simp [way]
  | n + 1, h => by
    unfold way
    rw [List.range_succ, List.filterMap_append, List.nodup_append]
    refine ⟨way_nodup (n := n) fun i j a hi hj => h i j a hi (by omega), ?_, fun x hx y hy => ?_⟩
    · cases e : itr f n c <;> simp [e]
    · obtain ⟨k, hk, hkx⟩ := way_mem.1 (show x ∈ way f c n from hx)
      simp at hy
      rintro rfl
      exact h k n x hk (by omega) hkx hy
/-- Those that never meet again end within as many steps as there are clients. -/
theorem way_ends {l : List It} {f : Int → Option Int} (hf : ∀ c d, f c = some d → d ∈ cl l) {c : Int} (hc : c ∈ cl l) (hno : ∀ x m, 0 < m → itr f m x ≠ some x) : itr f l.length c = none := by
  cases e : itr f l.length c with
  | none => rfl
  | some z =>
    exfalso
    have h1 : ∀ k, k < l.length + 1 → itr f k c ≠ none := fun k hk h => by
      have := itr_le h (show k ≤ l.length by omega); rw [this] at e; cases e
    have h2 := way_nodup (f := f) (c := c) (n := l.length + 1) fun i j a hi hj ha hb => by
      obtain ⟨d, rfl⟩ := Nat.exists_eq_add_of_le (Nat.le_of_lt hi)
      rw [itr_at ha] at hb
      exact hno a d (by omega) hb
    have h3 := nodup_le h2 (b := cl l) fun x hx => by
      obtain ⟨k, _, hk⟩ := way_mem.1 hx
      exact itr_in hf hc hk
    rw [way_len h1] at h3
    unfold cl at h3
    rw [List.length_map] at h3
    omega
/-- One goes round, and is the youngest of those that it meets. -/
def Ring (l : List It) (f : Int → Option Int) (c : Int) : Prop := (∃ m, 0 < m ∧ itr f m c = some c) ∧ ∀ k a, itr f k c = some a → a = c ∨ yc l a c = false
/-- The same, told step by step. -/
def ringB (l : List It) (f : Int → Option Int) (c : Int) : Nat → Option Int → Bool
  | 0, _ => false
  | _ + 1, none => false
  | k + 1, some a => if a = c then true else if yc l a c then false else ringB l f c k (f a)
theorem ringB_to {l : List It} {f : Int → Option Int} {c : Int} : ∀ {k j : Nat}, (∀ i a, i < j → itr f i c = some a → a = c ∨ yc l a c = false) → 0 < j → ringB l f c k (itr f j c) = true → Ring l f c
  | 0, j, _, _, h => by unfold ringB at h; cases h
  | k + 1, j, hp, hj, h => by
    cases e : itr f j c with
    | none => rw [e] at h; unfold ringB at h; cases h
    | some a =>
      rw [e] at h
      unfold ringB at h
      by_cases ha : a = c
      · subst ha
        refine ⟨⟨j, hj, e⟩, fun i b hb => ?_⟩
        rw [itr_mod e] at hb
        exact hp _ b (Nat.mod_lt _ hj) hb
      · rw [if_neg ha] at h
        cases hy : yc l a c with
        | true => rw [hy, if_pos rfl] at h; cases h
        | false =>
          rw [hy, if_neg (by simp), ← itr_succ e] at h
          refine ringB_to (j := j + 1) (fun i b hi hb => ?_) (by omega) h
          rcases Nat.lt_or_ge i j with h1 | h1
          · exact hp i b h1 hb
          · obtain rfl : i = j := by omega
            rw [e] at hb; injection hb with hb; subst hb; exact .inr hy
theorem ringB_of {l : List It} {f : Int → Option Int} {c : Int} (hr : ∀ k a, itr f k c = some a → a = c ∨ yc l a c = false) : ∀ {k j m : Nat}, itr f (j + m) c = some c → m < k → ringB l f c k (itr f j c) = true
  | 0, _, _, _, h => absurd h (Nat.not_lt_zero _)
  | k + 1, j, m, h, hm => by
    obtain ⟨a, ha⟩ := itr_some h (show j ≤ j + m by omega)
    rw [ha]
    unfold ringB
    by_cases hac : a = c
    · rw [if_pos hac]
    · rw [if_neg hac]
      have hy := (hr j a ha).resolve_left hac
      rw [hy, if_neg (by simp), ← itr_succ ha]
      match m with
      | 0 => rw [Nat.add_zero, ha] at h; injection h with h; exact absurd h hac
      | m + 1 => exact ringB_of hr (m := m) (by rw [show j + 1 + m = j + (m + 1) by omega]; exact h) (by omega)
/-- A ring is no longer than there are clients. -/
theorem ring_short {l : List It} {f : Int → Option Int} (hf : ∀ c d, f c = some d → d ∈ cl l) {c : Int} (hc : c ∈ cl l) : ∀ {m : Nat}, 0 < m → itr f m c = some c → ∃ m', 0 < m' ∧ m' ≤ l.length ∧ itr f m' c = some c := by
  intro m
  induction m using Nat.strongRecOn with
  | ind m ih =>
    intro h0 h
    by_cases hm : m ≤ l.length
    · exact ⟨m, h0, hm, h⟩
    · by_cases hd : ∃ i j a, i < j ∧ j < m ∧ itr f i c = some a ∧ itr f j c = some a
      · obtain ⟨i, j, a, hij, hj, h1, h2⟩ := hd
        refine ih (m - (j - i)) (by omega) (by omega) ?_
        have h3 : itr f (j + (m - j)) c = some c := by rw [show j + (m - j) = m by omega]; exact h
        rw [itr_at h2] at h3
        rw [show m - (j - i) = i + (m - j) by omega, itr_at h1]
        exact h3
      · exfalso
        have h1 : ∀ k, k < m → itr f k c ≠ none := fun k hk h1 => by rw [itr_le h1 (by omega)] at h; cases h
        have h2 := way_nodup (f := f) (c := c) (n := m) fun i j a hi hj ha hb => hd ⟨i, j, a, hi, hj, ha, hb⟩
        have h3 := nodup_le h2 (b := cl l) fun x hx => by
          obtain ⟨k, _, hk⟩ := way_mem.1 hx
          exact itr_in hf hc hk
        rw [way_len h1] at h3
        unfold cl at h3
        rw [List.length_map] at h3
        omega
theorem ringB_iff {l : List It} {f : Int → Option Int} (hf : ∀ c d, f c = some d → d ∈ cl l) {c : Int} (hc : c ∈ cl l) {k : Nat} (hk : l.length ≤ k) : ringB l f c k (f c) = true ↔ Ring l f c := by
  have e : f c = itr f 1 c := by simp only [itr]; cases f c <;> rfl
  constructor
  · intro h
    rw [e] at h
    refine ringB_to (j := 1) (fun i a hi ha => ?_) (by omega) h
    obtain rfl : i = 0 := by omega
    simp only [itr, Option.some.injEq] at ha
    exact .inl ha.symm
  · rintro ⟨⟨m, h0, h⟩, hr⟩
    obtain ⟨m', h1, h2, h3⟩ := ring_short hf hc h0 h
    rw [e]
    exact ringB_of hr (m := m' - 1) (by rw [show 1 + (m' - 1) = m' by omega]; exact h3) (by omega)
theorem yc_total {l : List It} (hd : Dis l) {a b : Int} (ha : a ∈ cl l) (hb : b ∈ cl l) (h1 : yc l a b = false) (h2 : yc l b a = false) : a = b := by
  obtain ⟨x, hx, rfl⟩ := List.mem_map.1 ha
  obtain ⟨y, hy, rfl⟩ := List.mem_map.1 hb
  unfold yc at h1 h2
  rw [hd.it hx, hd.it hy] at h1 h2
  have e1 : ¬ (y.n < x.n ∨ (x.n = y.n ∧ y.c < x.c)) := fun h => by rw [yg_iff.2 h] at h1; cases h1
  have e2 : ¬ (x.n < y.n ∨ (y.n = x.n ∧ x.c < y.c)) := fun h => by rw [yg_iff.2 h] at h2; cases h2
  omega
/-- Of one ring just one is the youngest. -/
theorem Ring.one {l : List It} {f : Int → Option Int} (hd : Dis l) (hf : ∀ c d, f c = some d → d ∈ cl l) {c a : Int} {k : Nat} (hc : c ∈ cl l) (h : Ring l f c) (ha : itr f k c = some a) (h' : Ring l f a) : a = c := by
  obtain ⟨⟨m, h0, hm⟩, hr⟩ := h
  have ha' := ha
  rw [itr_mod hm] at ha'
  have hlt := Nat.mod_lt k h0
  have hback : itr f (m - k % m) a = some c := by rw [← itr_at ha', show k % m + (m - k % m) = m by omega]; exact hm
  rcases hr k a ha with h1 | h1
  · exact h1
  · rcases h'.2 _ _ hback with h2 | h2
    · exact h2.symm
    · exact yc_total hd (itr_in hf hc ha) hc h1 h2
/-- It has rings cut. -/
def cutB (l : List It) (c : Int) : Bool := ringB l (nx l) c l.length (nx l c)
theorem nx_cl {l : List It} : ∀ c d, nx l c = some d → d ∈ cl l := fun _ _ h => (nx_in h).1
theorem cut_iff {l : List It} {c : Int} (hc : c ∈ cl l) : cutB l c = true ↔ Ring l (nx l) c := ringB_iff nx_cl hc (Nat.le_refl _)
theorem cut_more {l : List It} {c : Int} (hc : c ∈ cl l) {k : Nat} (hk : l.length ≤ k) : ringB l (nx l) c k (nx l c) = cutB l c := by
  cases h : cutB l c with
  | true => exact (ringB_iff nx_cl hc hk).2 ((cut_iff hc).1 h)
  | false =>
    cases h2 : ringB l (nx l) c k (nx l c) with
    | false => rfl
    | true => rw [(cut_iff hc).2 ((ringB_iff nx_cl hc hk).1 h2)] at h; cases h
/-- Some that are cut already change nothing of whether another one is. -/
theorem cut_some {l : List It} (hd : Dis l) {f : Int → Option Int} {c : Int} (hc : c ∈ cl l) (hf : ∀ d, f d = nx l d ∨ (f d = none ∧ cutB l d = true ∧ d ≠ c)) : ringB l f c l.length (f c) = cutB l c := by
  have hcl : ∀ a d, f a = some d → d ∈ cl l := fun a d h => by
    rcases hf a with h1 | ⟨h1, _⟩
    · exact nx_cl a d (h1 ▸ h)
    · rw [h1] at h; cases h
  have hfn : ∀ {k a}, itr f k c = some a → itr (nx l) k c = some a := by
    intro k
    induction k with
    | zero => intro a h; exact h
    | succ k ih =>
      intro a h
      obtain ⟨b, hb⟩ := itr_some h (show k ≤ k + 1 by omega)
      rw [itr_succ hb] at h
      rw [itr_succ (ih hb)]
      rcases hf b with h1 | ⟨h1, _⟩
      · rw [← h1]; exact h
      · rw [h1] at h; cases h
  cases h : cutB l c with
  | true =>
    have hR := (cut_iff hc).1 h
    have hsame : ∀ {k a}, itr (nx l) k c = some a → itr f k c = some a := by
      intro k
      induction k with
      | zero => intro a h; exact h
      | succ k ih =>
        intro a h
        obtain ⟨b, hb⟩ := itr_some h (show k ≤ k + 1 by omega)
        rw [itr_succ hb] at h
        rw [itr_succ (ih hb)]
        rcases hf b with h1 | ⟨_, h1, h2⟩
        · rw [h1]; exact h
        · exact absurd (hR.one hd nx_cl hc hb ((cut_iff (itr_in nx_cl hc hb)).1 h1)) h2
    refine (ringB_iff hcl hc (Nat.le_refl _)).2 ?_
    obtain ⟨⟨m, h0, hm⟩, hr⟩ := hR
    exact ⟨⟨m, h0, hsame hm⟩, fun k a ha => hr k a (hfn ha)⟩
  | false =>
    cases h2 : ringB l f c l.length (f c) with
    | false => rfl
    | true =>
      obtain ⟨⟨m, h0, hm⟩, hr⟩ := (ringB_iff hcl hc (Nat.le_refl _)).1 h2
      have hmn := hfn hm
      have hall : ∀ k a, itr (nx l) k c = some a → itr f k c = some a := fun k a ha => by
        rw [itr_mod hmn] at ha
        rw [itr_mod hm]
        obtain ⟨b, hb⟩ := itr_some hm (show k % m ≤ m from Nat.le_of_lt (Nat.mod_lt _ h0))
        have := hfn hb
        rw [ha] at this; injection this with this; subst this; exact hb
      have : Ring l (nx l) c := ⟨⟨m, h0, hmn⟩, fun k a ha => hr k a (hall k a ha)⟩
      rw [(cut_iff hc).2 this] at h; cases h
/-- Whose a client is, rings cut. -/
def ow (l : List It) (c : Int) : Option Int := if cutB l c = true then none else nx l c
theorem ow_in {l : List It} {c d : Int} (h : ow l c = some d) : cutB l c = false ∧ nx l c = some d := by
  unfold ow at h
  split at h
  · cases h
  · rename_i hh; exact ⟨by simpa using hh, h⟩
theorem ow_cl {l : List It} : ∀ c d, ow l c = some d → d ∈ cl l := fun c d h => nx_cl c d (ow_in h).2
theorem yc_trans {l : List It} {a b c : Int} (h1 : yc l b a = false) (h2 : yc l c b = false) : yc l c a = false := by
  unfold yc at *
  have e1 : ¬ ((it l a).n < (it l b).n ∨ ((it l b).n = (it l a).n ∧ (it l a).c < (it l b).c)) := fun h => by rw [yg_iff.2 h] at h1; cases h1
  have e2 : ¬ ((it l b).n < (it l c).n ∨ ((it l c).n = (it l b).n ∧ (it l b).c < (it l c).c)) := fun h => by rw [yg_iff.2 h] at h2; cases h2
  cases h : yg (it l c) (it l a) with
  | false => rfl
  | true =>
    have := yg_iff.1 h
    omega
theorem yc_refl (l : List It) (a : Int) : yc l a a = false := by unfold yc yg; simp
theorem yc_asym {l : List It} {a b : Int} (h : yc l a b = true) : yc l b a = false := by
  unfold yc at *
  have := yg_iff.1 h
  cases h2 : yg (it l b) (it l a) with
  | false => rfl
  | true => have := yg_iff.1 h2; omega
/-- Of some there is one that no one is younger than. -/
theorem youngest (l : List It) : ∀ (s : List Int), s ≠ [] → ∃ y ∈ s, ∀ a ∈ s, yc l a y = false
  | [], h => absurd rfl h
  | [x], _ => ⟨x, by simp, fun a ha => by simp at ha; subst ha; exact yc_refl l a⟩
  | x :: z :: t, _ => by
    obtain ⟨y, hy, h⟩ := youngest l (z :: t) (by simp)
    cases e : yc l x y with
    | false => exact ⟨y, List.mem_cons_of_mem _ hy, fun a ha => by
        rcases List.mem_cons.1 ha with rfl | ha
        · exact e
        · exact h a ha⟩
    | true => exact ⟨x, List.mem_cons_self .., fun a ha => by
        rcases List.mem_cons.1 ha with rfl | ha
        · exact yc_refl l a
        · exact yc_trans (yc_asym e) (h a ha)⟩
/-- No owners go round. -/
theorem ow_no {l : List It} : ∀ (c : Int) (m : Nat), 0 < m → itr (ow l) m c ≠ some c := by
  intro c m h0 h
  have hnx : ∀ {k a}, itr (ow l) k c = some a → itr (nx l) k c = some a := by
    intro k
    induction k with
    | zero => intro a h; exact h
    | succ k ih =>
      intro a h
      obtain ⟨b, hb⟩ := itr_some h (show k ≤ k + 1 by omega)
      rw [itr_succ hb] at h
      rw [itr_succ (ih hb)]
      exact (ow_in h).2
  obtain ⟨y, hy, hyy⟩ := youngest l (way (ow l) c m) (fun e => by
    have : c ∈ way (ow l) c m := way_mem.2 ⟨0, h0, rfl⟩
    rw [e] at this; cases this)
  obtain ⟨k, hk, hky⟩ := way_mem.1 hy
  have hback : itr (nx l) (m - k) y = some c := by rw [← itr_at (hnx hky), show k + (m - k) = m by omega]; exact hnx h
  have hR : Ring l (nx l) y := by
    refine ⟨⟨m - k + k, by omega, by rw [itr_at hback]; exact hnx hky⟩, fun i a ha => ?_⟩
    have h1 : itr (nx l) (k + i) c = some a := by rw [itr_at (hnx hky)]; exact ha
    rw [itr_mod (hnx h)] at h1
    obtain ⟨b, hb⟩ := itr_some h (show (k + i) % m ≤ m from Nat.le_of_lt (Nat.mod_lt _ h0))
    have := hnx hb
    rw [h1] at this; injection this with this; subst this
    exact .inr (hyy _ (way_mem.2 ⟨_, Nat.mod_lt _ h0, hb⟩))
  obtain ⟨b, hb⟩ := itr_some h (show k + 1 ≤ m by omega)
  rw [itr_succ hky] at hb
  have hyc : y ∈ cl l := (nx_in (ow_in hb).2).2.2.1
  have := (ow_in hb).1
  rw [(cut_iff hyc).2 hR] at this; cases this
theorem ow_ends {l : List It} {c : Int} (hc : c ∈ cl l) : itr (ow l) l.length c = none := way_ends ow_cl hc ow_no
end Go.Proofs.Ytgioeijdgoogkaa.Od
