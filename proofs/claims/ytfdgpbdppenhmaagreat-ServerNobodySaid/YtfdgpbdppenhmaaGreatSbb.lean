/- Arguments opened: an act, a row of acts, a text. The document's list of properties: read; place. Rows of held properties owned; Drop and Remove of the document's list. What no call made: nil, or a table without a map. List of no properties; PropNobody, walked. -/
import Derived.Test.YtfdgpbdppenhmaaGreatSaz
import Derived.Test.YtfdgpbdppenhmaaGreatSba
import Derived.Deep.Slices
import Derived.Deep.Fields
import Derived.Maps.AppendAt
import Derived.Deep.QuietTactic
import Derived.BigQuiet
import Derived.Laws.OwnMore
section
namespace Go.Proofs.YtfdgpbdppenhmaaGreat.Pp
open Go.RowKit Go.WideShapes Go.ChangeShapes Go.ChangeAt Go.Deep
structure Ac where
  kind : Int
  win : Int
  p : Pr
def Ac.cells (t : Ac) : List Value := [.int .i64 t.kind, .int .i64 t.win, .string t.p.name, .string t.p.typ, .string t.p.data]
def Ac.ok (t : Ac) : Prop := I64 t.win ∧ t.p.name.size ≤ maxLen ∧ t.p.typ.size ≤ maxLen ∧ t.p.data.size ≤ maxLen
theorem i64_of {z : Int} (h : (Lit.int .i64 z).wf = true) : I64 z := by
  unfold I64
  simp [Lit.wf, IntKind.min, IntKind.max, IntKind.signed, IntKind.bits] at h
  omega
theorem cs_int : Tryz.prog.cellsOf 3 = 1 := by kernel_rfl
theorem cs_str : Tryz.prog.cellsOf 9 = 1 := by kernel_rfl
theorem cs_prop : Tryz.prog.cellsOf 35 = 3 := by kernel_rfl
theorem list_of {α : Type} {P : Nat → α → Prop} (n : Nat) (h : ∀ i, i < n → ∃ t, P i t) : ∃ l : List α, l.length = n ∧ ∀ (i : Nat) (t : α), l[i]? = some t → P i t := by
  induction n with
  | zero => exact ⟨[], rfl, fun i t ht => by simp at ht⟩
  | succ n ih =>
    obtain ⟨l, hl, hp⟩ := ih (fun i hi => h i (by omega))
    obtain ⟨t, ht⟩ := h n (by omega)
    refine ⟨l ++ [t], by simp [hl], fun i u hu => ?_⟩
    by_cases hi : i < n
    · rw [List.getElem?_append_left (by omega)] at hu
      exact hp i u hu
    · have hi' := (List.getElem?_eq_some_iff.1 hu).1
      simp at hi'
      have : i = n := by omega
      subst this
      rw [List.getElem?_append_right (by omega), hl] at hu
      simp at hu
      subst hu
      exact ht
section
variable {H : Type} {enc : TypeId × Value → H} {w : World} {fuel : Nat} {x : DataW H × List MemPlace}
theorem cell_spot {w : World} {a : Addr} {u : Value} (h : w.cell? a = some u) : a = ⟨a.block, a.off, none⟩ := by
  obtain ⟨b, o, s⟩ := a
  have : s = none := World.cell?_spot h
  subst this; rfl
theorem open_prop {c0 c1 c2 : Value} (h : DataW.trod enc Tryz.prog w 0 (fun _ => true) true fuel 35 [c0, c1, c2] = some x) :
    ∃ p : Pr, c0 = .string p.name ∧ c1 = .string p.typ ∧ c2 = .string p.data ∧ p.name.size ≤ maxLen ∧ p.typ.size ≤ maxLen ∧ p.data.size ≤ maxLen := by
  obtain ⟨xs, n, _, hx, _, hlen, hg⟩ := DataW.trod_struct Tryz.underlying35 h
  obtain ⟨y0, e0⟩ : ∃ y, xs[0]? = some y := ⟨_, List.getElem?_eq_getElem (by rw [hlen]; decide)⟩
  have k0 : DataW.trod enc Tryz.prog w 0 (fun _ => true) true n 9 [c0] = some y0 := by
    have h := (hg 0 _ rfl).trans e0
    simpa [cs_str] using h
  obtain ⟨y1, e1⟩ : ∃ y, xs[1]? = some y := ⟨_, List.getElem?_eq_getElem (by rw [hlen]; decide)⟩
  have k1 : DataW.trod enc Tryz.prog w 0 (fun _ => true) true n 9 [c1] = some y1 := by
    have h := (hg 1 _ rfl).trans e1
    simpa [cs_str] using h
  obtain ⟨y2, e2⟩ : ∃ y, xs[2]? = some y := ⟨_, List.getElem?_eq_getElem (by rw [hlen]; decide)⟩
  have k2 : DataW.trod enc Tryz.prog w 0 (fun _ => true) true n 9 [c2] = some y2 := by
    have h := (hg 2 _ rfl).trans e2
    simpa [cs_str] using h
  obtain ⟨z0, q0, _, w0⟩ := DataW.trod_string Tryz.underlying9 k0
  simp only [List.cons.injEq, and_true] at q0
  obtain ⟨z1, q1, _, w1⟩ := DataW.trod_string Tryz.underlying9 k1
  simp only [List.cons.injEq, and_true] at q1
  obtain ⟨z2, q2, _, w2⟩ := DataW.trod_string Tryz.underlying9 k2
  simp only [List.cons.injEq, and_true] at q2
  exact ⟨⟨z0, z1, z2⟩, q0, q1, q2, w0, w1, w2⟩
end
section
variable {H : Type} {enc : TypeId × Value → H} {w : World}
set_option maxRecDepth 100000 in
theorem int_of {b0 : Nat} {v : Value} {d : DataW H} {q : List MemPlace} (hv : Value.okWide Tryz.prog w .any b0 3 v) (h : DataW.Trod enc Tryz.prog w 0 (fun _ => true) true 3 v d q) : ∃ i : Int, v = .int .i64 i ∧ I64 i := by
  obtain ⟨a, rfl, _, _, hw⟩ := open_int Tryz.underlying3 hv h
  exact ⟨a, rfl, i64_of hw⟩
set_option maxRecDepth 100000 in
theorem str_of {b0 : Nat} {v : Value} {d : DataW H} {q : List MemPlace} (hv : Value.okWide Tryz.prog w .any b0 9 v) (h : DataW.Trod enc Tryz.prog w 0 (fun _ => true) true 9 v d q) : ∃ s : ByteArray, v = .string s ∧ s.size ≤ maxLen := by
  have h' := h
  obtain ⟨s, rfl, hd, _, _⟩ := Go.ChangeMaps.open_string Tryz.underlying9 hv h
  obtain ⟨fuel, hf⟩ := h'
  obtain ⟨s', q0, _, w0⟩ := DataW.trod_string Tryz.underlying9 hf
  simp only [Value.cells, List.cons.injEq, Value.string.injEq, and_true] at q0
  subst q0
  exact ⟨_, rfl, w0⟩
/-- A row of acts. -/
def IsActs (B : Nat) (w : World) (v : Value) (ts : List Ac) : Prop :=
  ∃ p c, v = .slice p ts.length c ∧ ts.length ≤ 9223372036854775807 ∧ ∀ (j : Nat) (t : Ac), ts[j]? = some t → ∃ b o, p = some ⟨b, o, none⟩ ∧ b < B ∧
    (∀ (i : Nat) (u : Value), t.cells[i]? = some u → w.cell? ⟨b, o + j * 5 + i, none⟩ = some u) ∧ t.ok
theorem IsActs.below {B : Nat} {w w' : World} {v : Value} {ts : List Ac} (h : IsActs B w v ts) (hb : Below B w w') : IsActs B w' v ts := by
  obtain ⟨p, c, h1, h2, h3⟩ := h
  refine ⟨p, c, h1, h2, fun j t hu => ?_⟩
  obtain ⟨b, o, h4, h5, h6, h8⟩ := h3 j t hu
  exact ⟨b, o, h4, h5, fun i u hi => (hb.cell (p := ⟨b, o + j * 5 + i, none⟩) h5).trans (h6 i u hi), h8⟩
theorem IsActs.grow {w w' : World} {v : Value} {ts : List Ac} (h : IsActs w.heap.size w v ts) (hb : Below w.heap.size w w') : IsActs w'.heap.size w' v ts := by
  obtain ⟨p, c, h1, h2, h3⟩ := h.below hb
  exact ⟨p, c, h1, h2, fun j t hu => by obtain ⟨b, o, h4, h5, h6⟩ := h3 j t hu; exact ⟨b, o, h4, Nat.lt_of_lt_of_le h5 hb.size, h6⟩⟩
end
end Go.Proofs.YtfdgpbdppenhmaaGreat.Pp
end
section
namespace Go.Proofs.YtfdgpbdppenhmaaGreat.Pp
open Go.RowKit Go.Maps
structure Hd where
  win : Int
  p : Pr
abbrev Hd.cells (h : Hd) : List Value := [.int .i64 h.win, .string h.p.name, .string h.p.typ, .string h.p.data]
/-- A row of held properties, read. -/
def RdH (w : World) (v : Value) (L : List Hd) : Prop :=
  ∃ p c, v = .slice p L.length c ∧ ∀ (j : Nat) (h : Hd), L[j]? = some h → ∃ b o, p = some ⟨b, o, none⟩ ∧ b < w.heap.size ∧ ∀ (i : Nat) (u : Value), h.cells[i]? = some u → w.cell? ⟨b, o + j * 4 + i, none⟩ = some u
theorem RdH.next {w w' : World} {v : Value} {L : List Hd} (h : RdH w v L) (hb : Below w.heap.size w w') : RdH w' v L := by
  obtain ⟨p, c, h1, h2⟩ := h
  refine ⟨p, c, h1, fun j x hx => ?_⟩
  obtain ⟨b, o, e, hlt, hc⟩ := h2 j x hx
  exact ⟨b, o, e, Nat.lt_of_lt_of_le hlt hb.size, fun i u hu => (hb.cell (p := ⟨b, o + j * 4 + i, none⟩) hlt).trans (hc i u hu)⟩
theorem RdH.nil (w : World) : RdH w (.slice none 0 0) [] := ⟨none, 0, rfl, fun j h hj => by cases hj⟩
def isP (i : Int) (s : ByteArray) (h : Hd) : Bool := decide (h.win = i ∧ h.p.name = s)
def placeN (L : List Hd) (i : Int) (s : ByteArray) : Nat := L.findIdx (isP i s)
def placeI (L : List Hd) (i : Int) (s : ByteArray) : Int := if placeN L i s < L.length then (placeN L i s : Int) else -1
theorem placeN_at {L : List Hd} {i : Int} {s : ByteArray} {k : Nat} {h : Hd} (hk : L[k]? = some h) (hy : isP i s h = true) (hn : ∀ j x, j < k → L[j]? = some x → isP i s x = false) : placeN L i s = k := by
  have hl := (List.getElem?_eq_some_iff.1 hk).1
  have he := (List.getElem?_eq_some_iff.1 hk).2
  unfold placeN
  rw [List.findIdx_eq hl]
  exact ⟨by rw [he]; exact hy, fun j hj => by
    have h2 := hn j (L[j]'(by omega)) hj (List.getElem?_eq_getElem (by omega))
    simpa using h2⟩
theorem placeN_no {L : List Hd} {i : Int} {s : ByteArray} (hn : ∀ j x, j < L.length → L[j]? = some x → isP i s x = false) : placeN L i s = L.length := by
  unfold placeN
  exact List.findIdx_eq_length.2 fun x hx => by
    obtain ⟨j, hj, he⟩ := List.getElem_of_mem hx
    exact hn j x hj (by rw [List.getElem?_eq_getElem hj, he])
theorem tl_ne {a b : ByteArray} (h : ¬ a = b) : ¬ a.toList = b.toList := fun e => h (by rw [ByteArray.toList_eq, ByteArray.toList_eq] at e; exact bytes_eq e)
section
variable {w : World} {v : Value} {L : List Hd}
set_option maxRecDepth 100000 in
set_option maxHeartbeats 2000000 in
theorem place_c (h : RdH w v L) (hl : L.length ≤ 1048576) (i : Int) (s : ByteArray) : Calls Tryz.prog 65 #[v, .int .i64 i, .string s] w fun e w' => e = .returned (.int .i64 (placeI L i s)) ∧ w = w' := by
  obtain ⟨p, c, rfl, hc⟩ := h
  have HC := Lib.hid hc
  obtain ⟨n, hn⟩ : ∃ n, n = L.length := ⟨_, rfl⟩
  rw [← hn] at hl ⊢
  have HN := Lib.hid hn
  clear hc hn
  go_enter Tryz.func65, Tryz.ntmps65
  go_wp2_with fail
  go_loopw [7] (fun z wr => ∃ k : Nat, k ≤ n ∧ z = .int .i64 k ∧ wr = w ∧ Asd (∀ j x, j < k → L[j]? = some x → isP i s x = false)) (fun z _ => n - (intOf z).toNat)
  case atStart => exact ⟨0, Nat.zero_le _, rfl, rfl, fun j x hj => absurd hj (Nat.not_lt_zero _)⟩
  case round =>
    obtain ⟨k, hk, rfl, rfl, hA⟩ := hrel
    have HA := Lib.hid (show ∀ j x, j < k → L[j]? = some x → isP i s x = false from hA)
    have hk0 : (0 : Int) ≤ (k : Int) := by omega
    clear hA
    by_cases hlt : k < n
    · have hk1 : (k : Int) < (n : Int) := by omega
      obtain ⟨x, hx⟩ : ∃ x, L[k]? = some x := ⟨_, List.getElem?_eq_getElem (by rw [← HN.out]; exact hlt)⟩
      obtain ⟨b, o, rfl, hb, hcl⟩ := HC.out k x hx
      obtain ⟨xw, xn, xt, xd⟩ := x
      have c0 := hcl 0 _ rfl
      have c1 := hcl 1 _ rfl
      have HXX := Lib.hid hx
      simp only [Nat.add_zero] at c0
      clear hcl hx hb
      by_cases hw : xw = i
      · subst hw
        by_cases hs : xn = s
        · have HR := Lib.hid (show placeI L xw s = (k : Int) from by
            have hp := placeN_at HXX.out (show isP xw s ⟨xw, xn, xt, xd⟩ = true by simp [isP, hs]) HA.out
            unfold placeI
            rw [hp, if_pos (by rw [← HN.out]; exact hlt)])
          subst hs
          go_wp2_with fail
          go_ret
          exact ⟨by rw [HR.out]; rfl, rfl⟩
        · have hs' := tl_ne hs
          have hs2 : (xn.toList == s.toList) = false := by simpa using hs'
          have HNO := Lib.hid (show isP xw s ⟨xw, xn, xt, xd⟩ = false by simp [isP, hs])
          go_wp2_with fail
          go_roundw
          case rel => exact ⟨k + 1, by omega, by go_num, trivial, fun j x hj hx => by
            rcases Nat.lt_or_ge j k with hjk | hjk
            · exact HA.out j x hjk hx
            · obtain rfl : j = k := by omega
              rw [HXX.out] at hx; injection hx with hx; rw [← hx]; exact HNO.out⟩
          case measure => simp [intOf]; omega
      · have HNO := Lib.hid (show isP i s ⟨xw, xn, xt, xd⟩ = false by simp [isP, hw])
        go_wp2_with fail
        go_roundw
        case rel => exact ⟨k + 1, by omega, by go_num, trivial, fun j x hj hx => by
          rcases Nat.lt_or_ge j k with hjk | hjk
          · exact HA.out j x hjk hx
          · obtain rfl : j = k := by omega
            rw [HXX.out] at hx; injection hx with hx; rw [← hx]; exact HNO.out⟩
        case measure => simp [intOf]; omega
    · obtain rfl : k = n := by omega
      have HR := Lib.hid (show placeI L i s = -1 from by
        have hp := placeN_no (L := L) (i := i) (s := s) (by rw [← HN.out]; exact HA.out)
        unfold placeI
        rw [hp, if_neg (Nat.lt_irrefl _)])
      go_wp2_with fail
      go_ret
      exact ⟨by rw [HR.out]; rfl, rfl⟩
end
end Go.Proofs.YtfdgpbdppenhmaaGreat.Pp
end
section
namespace Go.Proofs.YtfdgpbdppenhmaaGreat.Pp
open Go.RowKit Go.Shelf Go.Maps
theorem take_snoc_get {α : Type} {l : List α} {k : Nat} {x : α} (h : l[k]? = some x) : l.take (k + 1) = l.take k ++ [x] := by
  rw [List.take_add_one, h]; rfl
/-- A slice of the call's own that holds these structs, k cells each. -/
def OwK {α : Type} (enc : α → List Value) (T : TypeId) (k : Nat) (w : World) (base : Nat) (v : Value) (xs : List α) : Prop := w.ownsRow base T k v xs.length (xs.flatMap enc)
section
variable {α : Type} {enc : α → List Value} {T : TypeId} {k : Nat} {w w' : World} {base : Nat} {v : Value} {xs : List α}
theorem OwK.nil (w : World) (base : Nat) : OwK enc T k w base (.slice none 0 0) [] := World.ownsRow_nil w base _ _
theorem OwK.grown {row : Option Nat} (h : OwK enc T k w base v xs) (hg : w.grownBy w' row) (hne : v.ownBlock = none ∨ v.ownBlock ≠ row) : OwK enc T k w' base v xs := World.ownsRow.kept h hg hne
theorem OwK.below (h : OwK enc T k w base v xs) (hb : Below w.heap.size w w') : OwK enc T k w' base v xs := by
  refine h.grown (only_of_below hb none) ?_
  cases v.ownBlock with
  | none => exact .inl rfl
  | some g => exact .inr (by simp)
theorem OwK.less {base' : Nat} (h : OwK enc T k w base v xs) (hb : base' ≤ base) : OwK enc T k w base' v xs := by
  obtain ⟨h1, h2⟩ := h
  refine ⟨h1, ?_⟩
  rcases h2 with h2 | ⟨g, cap, cur, a, b, c⟩
  · exact .inl h2
  · exact .inr ⟨g, cap, cur, a, Nat.le_trans hb b, c⟩
theorem OwK.lt (h : OwK enc T k w base v xs) {g : Nat} (hg : v.ownBlock = some g) : base ≤ g ∧ g < w.heap.size := World.ownsRow.lt h g hg
theorem flat_len (hk : ∀ x, (enc x).length = k) (xs : List α) : (xs.flatMap enc).length = xs.length * k := by
  induction xs with
  | nil => simp
  | cons x t ih => rw [List.flatMap_cons, List.length_append, hk, ih, List.length_cons, Nat.add_mul]; omega
theorem flat_get (hk : ∀ x, (enc x).length = k) : ∀ (xs : List α) (j : Nat) (x : α) (i : Nat) (u : Value), xs[j]? = some x → (enc x)[i]? = some u → (xs.flatMap enc)[j * k + i]? = some u
  | [], j, x, i, u, hx, _ => by simp at hx
  | y :: t, 0, x, i, u, hx, hu => by
    simp only [List.getElem?_cons_zero, Option.some.injEq] at hx
    subst hx
    have hi := (List.getElem?_eq_some_iff.1 hu).1
    rw [List.flatMap_cons, Nat.zero_mul, Nat.zero_add, List.getElem?_append_left hi]
    exact hu
  | y :: t, j + 1, x, i, u, hx, hu => by
    rw [List.getElem?_cons_succ] at hx
    have := flat_get hk t j x i u hx hu
    rw [List.flatMap_cons, List.getElem?_append_right (by rw [hk, Nat.add_mul]; omega), hk]
    rw [show (j + 1) * k + i - k = j * k + i by rw [Nat.add_mul]; omega]
    exact this
/-- Its elements, where there are any. -/
theorem OwK.form (hk : ∀ x, (enc x).length = k) (h : OwK enc T k w base v xs) (hne : xs ≠ []) : ∃ g cap, v = .slice (some ⟨g, 0, none⟩) xs.length cap ∧ base ≤ g ∧ g < w.heap.size ∧
    (∀ (j : Nat) (x : α) (i : Nat) (u : Value), xs[j]? = some x → (enc x)[i]? = some u → w.cell? ⟨g, j * k + i, none⟩ = some u) ∧ ∀ j, w.frozen? ⟨g, j, none⟩ = false := by
  have h0 := h
  obtain ⟨hlen, h1⟩ := h
  rcases h1 with ⟨_, hn⟩ | ⟨g, cap, cur, rfl, hb, hg, hnc, hm, hs, ht⟩
  · exact absurd (List.eq_nil_of_length_eq_zero hn) hne
  · refine ⟨g, cap, rfl, hb, (World.ownsRow.lt h0 g rfl).2, fun j x i u hx hu => ?_, fun j => World.ownsRow.frozenAt h0 j⟩
    have h2 := flat_get hk xs j x i u hx hu
    have h3 := (List.getElem?_eq_some_iff.1 h2).1
    rw [hlen] at h3
    exact (World.ownsRow.cellAt h0 _ h3).trans h2
theorem OwK.slice (h : OwK enc T k w base v xs) : ∃ p c, v = .slice p xs.length c := by
  obtain ⟨_, h1⟩ := h
  rcases h1 with ⟨rfl, hn⟩ | ⟨g, cap, cur, rfl, _⟩
  · rw [hn]; exact ⟨_, _, rfl⟩
  · exact ⟨_, _, rfl⟩
/-- What is owned reads. -/
theorem OwK.reads (hk : ∀ x, (enc x).length = k) (h : OwK enc T k w base v xs) : RdK enc k w v xs := by
  by_cases hne : xs = []
  · subst hne
    obtain ⟨p, c, rfl⟩ := h.slice
    exact ⟨p, c, rfl, fun j x hx => by simp at hx⟩
  · obtain ⟨g, cap, rfl, _, hl, hc, _⟩ := h.form hk hne
    exact ⟨_, cap, rfl, fun j x hx => ⟨g, 0, rfl, hl, fun i u hu => by rw [Nat.zero_add]; exact hc j x i u hx hu⟩⟩
end
/-- An owned row is put behind an owned row, whatever it holds. -/
theorem run_app {P : Program} (w : World) (t ty : TypeId) (base : Nat) (e : TypeId) (i : TypeInfo) (z : Value) (size bytes : Nat) (ht : P.underlying t = some (.slice e)) (hi : P.info? e = some i) (hz : i.zero = some z)
    (hsize : i.size = size) (hby : i.bytes = bytes) (hzs : z.cells.size = size) (hsz : 0 < size) (v : Value) (n : Nat) (xs : List Value) (hown : w.ownsRow base e size v n xs)
    (B : Nat) (u : Value) (m : Nat) (news : List Value) (hu : w.ownsRow B e size u m news) (h1 : ∀ q ∈ news, q.oneCell' = true) (h63 : n + m ≤ maxLen) (hbytes : (n + m) * bytes ≤ 140737488355328) (hbase : base ≤ w.heap.size) :
    ∃ v' w', (Builtin.append_ #[t, t] ty #[v, u]).run P w = .ok v' w' ∧ w'.ownsRow base e size v' (n + m) (xs ++ news) ∧ w.grownBy w' v.ownBlock := by
  have hc := fun g (hg : u.ownBlock = some g) => World.ownsRow.cells hu hg
  obtain ⟨hl, h2⟩ := hu
  rcases h2 with ⟨rfl, rfl⟩ | ⟨g, cap, cur, rfl, _⟩
  · obtain rfl : news = [] := List.eq_nil_of_length_eq_zero (by simpa using hl)
    exact ⟨v, w, run_append_owned_none (P := P) (w := w) base t ty e i size ht hi v n xs hown, by simpa using hown, World.grownBy.refl w _⟩
  · obtain ⟨v', w', k1, k2, k3, _⟩ := run_append_own_at (P := P) w base t ty e i z size bytes ht hi hz hsize hby hzs hsz v n xs hown ⟨g, 0, none⟩ m cap news hl (hc g rfl) h1 h63 hbytes hbase
    exact ⟨v', w', k1, k2, k3⟩
theorem wp_app {P : Program} {w : World} {o : Oper} {a : Act} {K : Act → World → Prop} {Q : Exit → Act → World → Prop} (s x : Operand) (t : TypeId)
    (ho : o.op = .call { callee := .builtin .append, args := #[s, x], argTypes := #[t, t] })
    (base : Nat) (e : TypeId) (i : TypeInfo) (z : Value) (size bytes : Nat) (ht : P.underlying t = some (.slice e)) (hi : P.info? e = some i) (hz : i.zero = some z)
    (hsize : i.size = size) (hby : i.bytes = bytes) (hzs : z.cells.size = size) (hsz : 0 < size) (v : Value) (n : Nat) (xs : List Value) (hs : a.eval s = v) (hown : w.ownsRow base e size v n xs)
    (B : Nat) (u : Value) (m : Nat) (news : List Value) (hx : a.eval x = u) (hu : w.ownsRow B e size u m news) (h1 : ∀ q ∈ news, q.oneCell' = true) (h63 : n + m ≤ maxLen) (hbytes : (n + m) * bytes ≤ 140737488355328) (hbase : base ≤ w.heap.size)
    (h : ∀ v' w', w'.ownsRow base e size v' (n + m) (xs ++ news) → w.grownBy w' v.ownBlock → K (a.put o.dst v') w') : o.wp P a w K Q := by
  obtain ⟨v', w', k1, k2, k3⟩ := run_app (P := P) w t o.type base e i z size bytes ht hi hz hsize hby hzs hsz v n xs hown B u m news hu h1 h63 hbytes hbase
  unfold Oper.wp execOp
  simp only [ho, resolve, invoke, builtin, Sem.run_bind, Sem.run_pure, Result.andThen_ok, List.map_toArray, List.map_cons, List.map_nil, hs, hx, k1]
  exact h v' w' k2 k3
theorem list_app {P : Program} {w : World} {ops : Array Oper} {rest : List Oper} {o : Oper} {a : Act} {Q : Exit → Act → World → Prop} (hgd : o.guard = none) (s x : Operand) (t : TypeId)
    (ho : o.op = .call { callee := .builtin .append, args := #[s, x], argTypes := #[t, t] })
    (base : Nat) (e : TypeId) (i : TypeInfo) (z : Value) (size bytes : Nat) (ht : P.underlying t = some (.slice e)) (hi : P.info? e = some i) (hz : i.zero = some z)
    (hsize : i.size = size) (hby : i.bytes = bytes) (hzs : z.cells.size = size) (hsz : 0 < size) (v : Value) (n : Nat) (xs : List Value) (hs : a.eval s = v) (hown : w.ownsRow base e size v n xs)
    (B : Nat) (u : Value) (m : Nat) (news : List Value) (hx : a.eval x = u) (hu : w.ownsRow B e size u m news) (h1 : ∀ q ∈ news, q.oneCell' = true) (h63 : n + m ≤ maxLen) (hbytes : (n + m) * bytes ≤ 140737488355328) (hbase : base ≤ w.heap.size)
    (h : ∀ v' w', w'.ownsRow base e size v' (n + m) (xs ++ news) → w.grownBy w' v.ownBlock → wpList P ops Q rest (a.put o.dst v') w') : wpList P ops Q (o :: rest) a w :=
  wpList_plain hgd fun _ hK => wp_app s x t ho base e i z size bytes ht hi hz hsize hby hzs hsz v n xs hs hown B u m news hx hu h1 h63 hbytes hbase fun v' w' h2 h3 => hK _ _ (h v' w' h2 h3)
theorem step_app {P : Program} {w : World} {ops : Array Oper} {o : Oper} {a : Act} {K : Act → World → Prop} {Q : Exit → Act → World → Prop} {E : Prop} (hgd : o.guard = none) (s x : Operand) (t : TypeId)
    (ho : o.op = .call { callee := .builtin .append, args := #[s, x], argTypes := #[t, t] })
    (base : Nat) (e : TypeId) (i : TypeInfo) (z : Value) (size bytes : Nat) (ht : P.underlying t = some (.slice e)) (hi : P.info? e = some i) (hz : i.zero = some z)
    (hsize : i.size = size) (hby : i.bytes = bytes) (hzs : z.cells.size = size) (hsz : 0 < size) (v : Value) (n : Nat) (xs : List Value) (hs : a.eval s = v) (hown : w.ownsRow base e size v n xs)
    (B : Nat) (u : Value) (m : Nat) (news : List Value) (hx : a.eval x = u) (hu : w.ownsRow B e size u m news) (h1 : ∀ q ∈ news, q.oneCell' = true) (h63 : n + m ≤ maxLen) (hbytes : (n + m) * bytes ≤ 140737488355328) (hbase : base ≤ w.heap.size)
    (h : ∀ v' w', w'.ownsRow base e size v' (n + m) (xs ++ news) → w.grownBy w' v.ownBlock → K (a.put o.dst v') w') : if Region.wanted o (yielded ops a.tmps) = true then Oper.wp P o a w K Q else E := by
  have hw : Region.wanted o (yielded ops a.tmps) = true := by simp [Region.wanted, hgd]
  rw [if_pos hw]
  exact wp_app s x t ho base e i z size bytes ht hi hz hsize hby hzs hsz v n xs hs hown B u m news hx hu h1 h63 hbytes hbase h
def encH (h : Hd) : List Value := [.int .i64 h.win, .string h.p.name, .string h.p.typ, .string h.p.data]
def encP (p : Pr) : List Value := [.string p.name, .string p.typ, .string p.data]
theorem encH_len (h : Hd) : (encH h).length = 4 := rfl
theorem encP_len (h : Pr) : (encP h).length = 3 := rfl
theorem RdH.of {w : World} {v : Value} {L : List Hd} (h : RdK encH 4 w v L) : RdH w v L := h
theorem oneCell_encH (v : Hd) : ∀ u ∈ encH v, u.oneCell' = true := by
  intro u hu
  simp only [encH, List.mem_cons, List.not_mem_nil, or_false] at hu
  rcases hu with rfl | rfl | rfl | rfl <;> rfl
theorem oneCell_encP (v : Pr) : ∀ u ∈ encP v, u.oneCell' = true := by
  intro u hu
  simp only [encP, List.mem_cons, List.not_mem_nil, or_false] at hu
  rcases hu with rfl | rfl | rfl <;> rfl
theorem heldInfo : (Tryz.prog.info? 120).map (fun i => (i.zero, i.size, i.bytes)) = some (some (.agg #[.int .i64 0, .string ByteArray.empty, .string ByteArray.empty, .string ByteArray.empty]), 4, 56) := by kernel_rfl
abbrev OH (w : World) (B : Nat) (v : Value) (L : List Hd) : Prop := OwK encH 120 4 w B v L
theorem OH.rd {w : World} {B : Nat} {v : Value} {L : List Hd} (h : OH w B v L) : RdH w v L := RdH.of (OwK.reads encH_len h)
def dropH (i : Int) (L : List Hd) : List Hd := L.filter (fun h => !decide (h.win = i))
def remH (i : Int) (s : ByteArray) (L : List Hd) : List Hd := L.filter (fun h => !isP i s h)
theorem filter_snoc {α : Type} (f : α → Bool) {L : List α} {k : Nat} {x : α} (hx : L[k]? = some x) : (L.take (k + 1)).filter f = if f x = true then (L.take k).filter f ++ [x] else (L.take k).filter f := by
  rw [take_snoc_get hx, List.filter_append]
  cases h : f x <;> simp [h]
theorem filter_len {α : Type} (f : α → Bool) (L : List α) (k : Nat) : ((L.take k).filter f).length ≤ L.length := by
  refine Nat.le_trans (List.length_filter_le _ _) ?_
  rw [List.length_take]; omega
/-- The rounds: held properties gathered. -/
def GhS (w : World) (wr : World) (v : Value) (xs : List Hd) : Prop := OH wr w.heap.size v xs ∧ Below w.heap.size w wr
theorem GhS.put {w wr w1 : World} {v v' : Value} {xs : List Hd} {u : Hd} {o : Obj} (h : GhS w wr v xs) (ho : w1.ownsRow w.heap.size 120 4 v' (xs.length + 1) (xs.flatMap encH ++ encH u)) (hg : (wr.alloc o).grownBy w1 v.ownBlock) : GhS w w1 v' (xs ++ [u]) := by
  refine ⟨?_, below_only (h.2.alloc h.2.size _) hg (by have := h.2.size; simp; omega) (fun k hk => (h.1.lt hk).1)⟩
  show w1.ownsRow w.heap.size 120 4 v' (xs ++ [u]).length ((xs ++ [u]).flatMap encH)
  rw [List.length_append, List.flatMap_append]
  simpa using ho
section
variable {w : World} {v : Value} {L : List Hd}
set_option maxRecDepth 100000 in
set_option maxHeartbeats 4000000 in
theorem rdrop_c (h : RdH w v L) (hL : L.length ≤ 1048576) (i : Int) :
    Calls Tryz.prog 89 #[v, .int .i64 i] w fun e w' => ∃ v', e = .returned (v') ∧ OH w' w.heap.size v' (dropH i L) ∧ Below w.heap.size w w' := by
  obtain ⟨i0, hi0, hz0, hz1, hz2⟩ := info_parts heldInfo
  obtain ⟨p, c, rfl, hc⟩ := h
  obtain ⟨n, hn⟩ : ∃ n, n = L.length := ⟨_, rfl⟩
  rw [← hn] at hL ⊢
  have HC := Lib.hid (fun (wr : World) (hr : Below w.heap.size w wr) (j : Nat) (x : Hd) (hx : L[j]? = some x) => (show ∃ b o, p = some ⟨b, o, none⟩ ∧ ∀ (i : Nat) (u : Value), x.cells[i]? = some u → wr.cell? ⟨b, o + j * 4 + i, none⟩ = some u from by
    obtain ⟨b, o, h1, h2, h3⟩ := hc j x hx
    exact ⟨b, o, h1, fun i u hu => (hr.cell (p := ⟨b, o + j * 4 + i, none⟩) h2).trans (h3 i u hu)⟩))
  have HN := Lib.hid hn
  have HLL := Lib.hid (fun k => (show (dropH i (L.take k)).length ≤ L.length from filter_len _ L k))
  have hm0 : (n : Int) ≤ 1048576 := by omega
  clear hc hn
  go_enter Tryz.func89, Tryz.ntmps89
  go_wp2_with fail
  go_loopw [5, 6] (fun y z wr => ∃ k : Nat, k ≤ n ∧ z = .int .i64 k ∧ GhS w wr y (dropH i (L.take k))) (fun _ z _ => n - (intOf z).toNat)
  case atStart => exact ⟨0, Nat.zero_le _, rfl, OwK.nil _ _, Below.refl _ _⟩
  case round =>
    obtain ⟨k, hk, rfl, hG⟩ := hrel
    have HG := Lib.hid hG
    have hi0' : (0 : Int) ≤ (k : Int) := by omega
    by_cases hlt : k < n
    · obtain ⟨x, hx⟩ : ∃ x, L[k]? = some x := ⟨_, List.getElem?_eq_getElem (by rw [← HN.out]; exact hlt)⟩
      obtain ⟨b, o, rfl, hb2⟩ := HC.out wr hG.2 k x hx
      have r0 := hb2 0 _ rfl
      have r1 := hb2 1 _ rfl
      have r2 := hb2 2 _ rfl
      have r3 := hb2 3 _ rfl
      simp only [Nat.add_zero] at r0
      have hsn := filter_snoc (fun h => !decide (h.win = i)) hx
      clear hb2 hG hx
      have hi1 : (k : Int) < (n : Int) := by omega
      by_cases hvi : x.win = i
      · have h1 : (x.win == i) = true := by simpa using hvi
        have h2 : (x.win != i) = false := by simpa using hvi
        have HSN := Lib.hid (hsn.trans (if_neg (by simp [hvi])))
        clear hsn
        go_wp2_with fail
        go_roundw
        case rel => exact ⟨k + 1, by omega, by go_num, by show GhS w _ _ ((L.take (k + 1)).filter _); rw [HSN.out]; exact HG.out⟩
        case measure => simp [intOf]; omega
      · have h1 : (x.win == i) = false := by simpa using hvi
        have h2 : (x.win != i) = true := by simpa using hvi
        have HSN := Lib.hid (hsn.trans (if_pos (by simp [hvi])))
        clear hsn
        go_wp2_with (at_builtin; refine wpList_append_own_at _ rfl (.tmp 20) (.tmp 25) 55 rfl w.heap.size 120 i0 (.agg #[.int .i64 0, .string ByteArray.empty, .string ByteArray.empty, .string ByteArray.empty]) 4 56 Tryz.underlying55 hi0 hz0 hz1 hz2 rfl (by decide) _ _ _ rfl (World.ownsRow.alloc HG.out.1 _) ⟨_, 0, none⟩ 1 1 (encH x) rfl rfl (cell_list_at _ _ (encH x) _ rfl) (oneCell_encH x) (by unfold maxLen; have := HLL.out k; have := HN.out; omega) (by have := HLL.out k; have := HN.out; omega) (by have := HG.out.2.size; simp; omega) ?_; intro v3 w3 ho3 hg3 _ _; have HP := Lib.hid (HG.out.put ho3 hg3); clear ho3 hg3)
        go_roundw
        case rel => exact ⟨k + 1, by omega, by go_num, by show GhS w _ _ ((L.take (k + 1)).filter _); rw [HSN.out]; exact HP.out⟩
        case measure => simp [intOf]; omega
    · obtain rfl : k = n := by omega
      clear hG
      go_wp2_with fail
      go_ret
      exact ⟨_, rfl, by have h := HG.out.1; rw [HN.out, List.take_length] at h; exact h, HG.out.2⟩
end
end Go.Proofs.YtfdgpbdppenhmaaGreat.Pp
end
section
namespace Go.Proofs.YtfdgpbdppenhmaaGreat.Pp
open Go.RowKit Go.Maps
def IsNo (w : World) (v : Value) : Prop := v = .pointer none ∨ ∃ t, v = tabP t ∧ Blk w t 108 #[.map none]
section
variable {w w' : World} {v : Value}
theorem IsNo.next (h : IsNo w v) (hb : Below w.heap.size w w') : IsNo w' v := by
  rcases h with rfl | ⟨t, rfl, ht⟩
  · exact .inl rfl
  · exact .inr ⟨t, rfl, ht.next hb⟩
theorem of_no (h : IsNo w v) {i : Int} (hi : I64 i) : Calls Tryz.prog 72 #[v, .int .i64 i] w fun e w' => e = .returned (.map none) ∧ w = w' := by
  rcases h with rfl | ⟨t, rfl, ht⟩
  · clear hi
    go_enter Tryz.func72, Tryz.ntmps72
    go_wp2_with fail
    go_ret
    exact ⟨rfl, rfl⟩
  · obtain ⟨c0, -⟩ := ht.c1
    have e0 := look_nilI w hi
    clear ht hi
    go_enter Tryz.func72, Tryz.ntmps72
    go_wp2_with fail
    go_ret
    exact ⟨rfl, rfl⟩
theorem drop_no (h : IsNo w v) {i : Int} (hi : I64 i) : Calls Tryz.prog 111 #[v, .int .i64 i] w fun e w' => e = .returned (.tuple #[]) ∧ w = w' := by
  rcases h with rfl | ⟨t, rfl, ht⟩
  · clear hi
    go_enter Tryz.func111, Tryz.ntmps111
    go_wp2_with fail
    go_end0
    exact ⟨rfl, rfl⟩
  · obtain ⟨c0, -⟩ := ht.c1
    have HD := Lib.hid (fun ty => (show ∃ w', (Builtin.delete_ #[106, 3] ty #[.map none, .int .i64 i]).run Tryz.prog w = .ok (.tuple #[]) w' ∧ w = w' from ⟨w, Maps.drop_nil keyedI Tryz.underlying106 (keyI_of hi) ty, rfl⟩))
    clear ht hi
    go_enter Tryz.func111, Tryz.ntmps111
    go_wp2_with (at_delete; refine wpList_delete_any rfl rfl _ _ rfl rfl rfl HD.out ?_; rintro w3 rfl)
    go_end0
    exact ⟨rfl, rfl⟩
set_option maxRecDepth 100000 in
theorem set_nobody (h : IsNo w v) {i : Int} (hi : I64 i) (p : Pr) : Calls Tryz.prog 119 #[v, .int .i64 i, prV p] w fun e w' => e = .returned (.int .i64 3) ∧ Below w.heap.size w w' := by
  have hbel : Below w.heap.size w (w.alloc (.cells #[.string p.name, .string p.typ, .string p.data] 35)) := (Below.refl _ _).alloc (Nat.le_refl _) _
  have HO := Lib.hid (of_no (h.next hbel) hi)
  have HB := Lib.hid hbel
  have h' := h.next hbel
  clear h hi hbel
  rcases h' with rfl | ⟨t, rfl, ht⟩
  · go_enter Tryz.func119, Tryz.ntmps119
    go_wp2_with (go_at_call 72; ((with_reducible refine (HO.out).mono ?_); rintro e w1 ⟨rfl, rfl⟩))
    go_ret
    exact ⟨rfl, HB.out⟩
  · obtain ⟨c0, -⟩ := ht.c1
    have em1 : ∀ W : World, (binOp .eql 106 (.map none) (.map none)).run Tryz.prog W = .ok (.bool true) W := fun W => by kernel_rfl
    clear ht
    go_enter Tryz.func119, Tryz.ntmps119
    go_wp2_with (go_at_call 72; ((with_reducible refine (HO.out).mono ?_); rintro e w1 ⟨rfl, rfl⟩))
    go_ret
    exact ⟨rfl, HB.out⟩
set_option maxRecDepth 100000 in
set_option maxHeartbeats 2000000 in
theorem get_nobody (h : IsNo w v) {i : Int} (hi : I64 i) {s : ByteArray} (hs : s.size ≤ maxLen) :
    Calls Tryz.prog 50 #[v, .int .i64 i, .string s] w fun e w' => e = .returned (.tuple #[prV noP, .bool false]) ∧ Below w.heap.size w w' := by
  obtain ⟨wb, hwb⟩ : ∃ wb, wb = w.alloc (.cells #[.string ⟨#[]⟩, .string ⟨#[]⟩, .string ⟨#[]⟩] 35) := ⟨_, rfl⟩
  have hbel : Below w.heap.size w wb := by rw [hwb]; exact (Below.refl _ _).alloc (Nat.le_refl _) _
  have hbx : Blk wb w.heap.size 35 #[.string ⟨#[]⟩, .string ⟨#[]⟩, .string ⟨#[]⟩] := by rw [hwb]; exact Blk.new w _ _
  have HOF := Lib.hid (of_no (h.next hbel) hi)
  have e0 := look_nilS wb hs
  obtain ⟨q, hqq⟩ : ∃ q, q = noP := ⟨_, rfl⟩
  rw [← hqq] at e0
  rw [← hqq]
  have HCP := Lib.hid (fun W => copied_c q W (by rw [hqq]; decide +kernel))
  have HX := Lib.hid hbx
  have HB := Lib.hid hbel
  have HW := Lib.hid hwb
  clear h hqq hbel hbx hi hs
  go_enter Tryz.func50, Tryz.ntmps50
  go_upto_region 1 with fail
  rw [← HW.out]
  clear hwb
  go_upto_region 2 with (go_at_call 72; ((with_reducible refine (HOF.out).mono ?_); rintro e w1 ⟨rfl, rfl⟩))
  have hb2 := (Below.refl _ wb).alloc (Nat.le_refl _) (.cells #[.string q.name, .string q.typ, .string q.data] 35)
  have hx2 := Blk.new wb 35 #[.string q.name, .string q.typ, .string q.data]
  obtain ⟨g2, hg2⟩ : ∃ g2, g2 = wb.heap.size := ⟨_, rfl⟩
  rw [← hg2] at hx2 ⊢
  clear hg2
  generalize wb.alloc (.cells #[.string q.name, .string q.typ, .string q.data] 35) = w2 at hb2 hx2 ⊢
  have HB2 := Lib.hid hb2
  obtain ⟨⟨x0, x1, x2⟩, -⟩ := hx2.c3
  clear hb2 hx2 e0
  go_wp2_with (go_at_call 73; ((with_reducible refine (HCP.out _).mono ?_); rintro e w3 ⟨rfl, hb3⟩); have HB3 := Lib.hid (hb3.on HB2.out HB2.out.size); obtain ⟨⟨z0, z1, z2⟩, ⟨f0, f1, f2⟩⟩ := (HX.out.next HB3.out).c3; clear hb3)
  refine bodyPost_ret (v := .tuple #[prV q, .bool false]) (by simp [results, Tryz.results50, go_sem, z0, z1, z2]) rfl ?_
  exact ⟨rfl, (((HB3.out.on HB.out HB.out.size).setCell (Nat.le_refl _) _).setCell (Nat.le_refl _) _).setCell (Nat.le_refl _) _⟩
end
end Go.Proofs.YtfdgpbdppenhmaaGreat.Pp
end
section
namespace Go.Proofs.YtfdgpbdppenhmaaGreat.Pp
open Go.RowKit Go.Maps
theorem propInfo : (Tryz.prog.info? 35).map (fun i => (i.zero, i.size, i.bytes)) = some (some (.agg #[.string ByteArray.empty, .string ByteArray.empty, .string ByteArray.empty]), 3, 48) := by kernel_rfl
theorem make_props (n : Nat) (hn : n ≤ 1048576) (W : World) : (Instr.makeSlice 169 (.int .i64 0) (.int .i64 (n : Int))).run Tryz.prog W = .ok (.slice (some ⟨W.heap.size, 0, none⟩) 0 n) (W.alloc (.cells (madeCells #[.string ByteArray.empty, .string ByteArray.empty, .string ByteArray.empty] (n * 3)) 35)) := by
  obtain ⟨i0, hi0, hz0, hz1, hz2⟩ := info_parts propInfo
  have h := run_make (P := Tryz.prog) W 169 35 i0 (.agg #[.string ByteArray.empty, .string ByteArray.empty, .string ByteArray.empty]) Tryz.underlying169 hi0 hz0 .i64 .i64 0 (n : Int) (by omega) (by omega) (by rw [hz2]; omega) (by omega)
  rw [hz1, show ((n : Int)).toNat = n by omega] at h
  exact h
theorem neq_prop (a b c a' b' c' : ByteArray) (w : World) : (binOp .neq 35 (.agg #[.string a, .string b, .string c]) (.agg #[.string a', .string b', .string c'])).run Tryz.prog w = .ok (.bool (!decide (a = a' ∧ b = b' ∧ c = c'))) w := by
  have tl : ∀ a b : ByteArray, a.toList = b.toList ↔ a = b := fun a b => by
    rw [ByteArray.toList_eq, ByteArray.toList_eq]
    exact ⟨fun h => bytes_eq h, fun h => by rw [h]⟩
  by_cases h1 : a = a' <;> by_cases h2 : b = b' <;> by_cases h3 : c = c' <;> simp [go_sem, tl, h1, h2, h3]
section
variable {w : World} {v : Value}
end
end Go.Proofs.YtfdgpbdppenhmaaGreat.Pp
end
