/- Texts Sbb Sbc Sbd. -/
import Derived.Test.YtnhchpiafchdgaaGreatTan
import Derived.Deep.Slices
import Derived.Deep.Fields
import Derived.Maps.AppendAt
import Derived.Deep.QuietTactic
import Derived.BigQuiet
import Derived.Laws.OwnMore
import Derived.Test.YtnhchpiafchdgaaGreatTam
import Derived.Laws.AppendOwnNone
import Derived.Test.YtnhchpiafchdgaaGreatTaa
section
namespace Go.Proofs.YtnhchpiafchdgaaGreat.Pp
open Go.RowKit Go.WideShapes Go.ChangeShapes Go.ChangeAt Go.Deep
structure Ac where
 kind : Int
 win : Int
 p : Pr
def Ac.cells (t : Ac) : List Value := [.int .i64 t.kind, .int .i64 t.win, .string t.p.name, .string t.p.typ, .string t.p.data]
def Ac.ok (t : Ac) : Prop := I64 t.win ∧ t.p.name.size ≤ maxLen ∧ t.p.typ.size ≤ maxLen ∧ t.p.data.size ≤ maxLen
theorem i64_of {z : Int} (h : (Lit.int .i64 z).wf = true) : I64 z := by
 unfold I64
 simp [Lit.wf, IntKind.min, IntKind.max, IntKind.signed, IntKind.bits] at h
 omega
theorem cs_int : Tryz.prog.cellsOf 3 = 1 := by kernel_rfl
theorem cs_str : Tryz.prog.cellsOf 9 = 1 := by kernel_rfl
theorem cs_prop : Tryz.prog.cellsOf 35 = 3 := by kernel_rfl
theorem list_of {α : Type} {P : Nat → α → Prop} (n : Nat) (h : ∀ i, i < n → ∃ t, P i t) : ∃ l : List α, l.length = n ∧ ∀ (i : Nat) (t : α), l[i]? = some t → P i t := by
 induction n with
 | zero => exact ⟨[], rfl, fun i t ht => by simp at ht⟩
 | succ n ih =>
  obtain ⟨l, hl, hp⟩ := ih (fun i hi => h i (by omega))
  obtain ⟨t, ht⟩ := h n (by omega)
  refine ⟨l ++ [t], by simp [hl], fun i u hu => ?_⟩
  by_cases hi : i < n
  · rw [List.getElem?_append_left (by omega)] at hu
    exact hp i u hu
  · have hi' := (List.getElem?_eq_some_iff.1 hu).1
    simp at hi'
    have : i = n := by omega
    subst this
    rw [List.getElem?_append_right (by omega), hl] at hu
    simp at hu
    subst hu
    exact ht
section
variable {H : Type} {enc : TypeId × Value → H} {w : World} {fuel : Nat} {x : DataW H × List MemPlace}
theorem cell_spot {w : World} {a : Addr} {u : Value} (h : w.cell? a = some u) : a = ⟨a.block, a.off, none⟩ := by
 obtain ⟨b, o, s⟩ := a
 have : s = none := World.cell?_spot h
 subst this; rfl
theorem open_prop {c0 c1 c2 : Value} (h : DataW.trod enc Tryz.prog w 0 (fun _ => true) true fuel 35 [c0, c1, c2] = some x) :
  ∃ p : Pr, c0 = .string p.name ∧ c1 = .string p.typ ∧ c2 = .string p.data ∧ p.name.size ≤ maxLen ∧ p.typ.size ≤ maxLen ∧ p.data.size ≤ maxLen := by
 obtain ⟨xs, n, _, hx, _, hlen, hg⟩ := DataW.trod_struct Tryz.underlying35 h
 obtain ⟨y0, e0⟩ : ∃ y, xs[0]? = some y := ⟨_, List.getElem?_eq_getElem (by rw [hlen]; decide)⟩
 have k0 : DataW.trod enc Tryz.prog w 0 (fun _ => true) true n 9 [c0] = some y0 := by
  have h := (hg 0 _ rfl).trans e0
  simpa [cs_str] using h
 obtain ⟨y1, e1⟩ : ∃ y, xs[1]? = some y := ⟨_, List.getElem?_eq_getElem (by rw [hlen]; decide)⟩
 have k1 : DataW.trod enc Tryz.prog w 0 (fun _ => true) true n 9 [c1] = some y1 := by
  have h := (hg 1 _ rfl).trans e1
  simpa [cs_str] using h
 obtain ⟨y2, e2⟩ : ∃ y, xs[2]? = some y := ⟨_, List.getElem?_eq_getElem (by rw [hlen]; decide)⟩
 have k2 : DataW.trod enc Tryz.prog w 0 (fun _ => true) true n 9 [c2] = some y2 := by
  have h := (hg 2 _ rfl).trans e2
  simpa [cs_str] using h
 obtain ⟨z0, q0, _, w0⟩ := DataW.trod_string Tryz.underlying9 k0
 simp only [List.cons.injEq, and_true] at q0
 obtain ⟨z1, q1, _, w1⟩ := DataW.trod_string Tryz.underlying9 k1
 simp only [List.cons.injEq, and_true] at q1
 obtain ⟨z2, q2, _, w2⟩ := DataW.trod_string Tryz.underlying9 k2
 simp only [List.cons.injEq, and_true] at q2
 exact ⟨⟨z0, z1, z2⟩, q0, q1, q2, w0, w1, w2⟩
end
section
variable {H : Type} {enc : TypeId × Value → H} {w : World}
def IsActs (B : Nat) (w : World) (v : Value) (ts : List Ac) : Prop :=
 ∃ p c, v = .slice p ts.length c ∧ ts.length ≤ 9223372036854775807 ∧ ∀ (j : Nat) (t : Ac), ts[j]? = some t → ∃ b o, p = some ⟨b, o, none⟩ ∧ b < B ∧
  (∀ (i : Nat) (u : Value), t.cells[i]? = some u → w.cell? ⟨b, o + j * 5 + i, none⟩ = some u) ∧ t.ok
theorem IsActs.below {B : Nat} {w w' : World} {v : Value} {ts : List Ac} (h : IsActs B w v ts) (hb : Below B w w') : IsActs B w' v ts := by
 obtain ⟨p, c, h1, h2, h3⟩ := h
 refine ⟨p, c, h1, h2, fun j t hu => ?_⟩
 obtain ⟨b, o, h4, h5, h6, h8⟩ := h3 j t hu
 exact ⟨b, o, h4, h5, fun i u hi => (hb.cell (p := ⟨b, o + j * 5 + i, none⟩) h5).trans (h6 i u hi), h8⟩
theorem IsActs.grow {w w' : World} {v : Value} {ts : List Ac} (h : IsActs w.heap.size w v ts) (hb : Below w.heap.size w w') : IsActs w'.heap.size w' v ts := by
 obtain ⟨p, c, h1, h2, h3⟩ := h.below hb
 exact ⟨p, c, h1, h2, fun j t hu => by obtain ⟨b, o, h4, h5, h6⟩ := h3 j t hu; exact ⟨b, o, h4, Nat.lt_of_lt_of_le h5 hb.size, h6⟩⟩
end
end Go.Proofs.YtnhchpiafchdgaaGreat.Pp
end
section
namespace Go.Proofs.YtnhchpiafchdgaaGreat.Pp
open Go.RowKit Go.Maps
structure Hd where
 win : Int
 p : Pr
abbrev Hd.cells (h : Hd) : List Value := [.int .i64 h.win, .string h.p.name, .string h.p.typ, .string h.p.data]
def RdH (w : World) (v : Value) (L : List Hd) : Prop :=
 ∃ p c, v = .slice p L.length c ∧ ∀ (j : Nat) (h : Hd), L[j]? = some h → ∃ b o, p = some ⟨b, o, none⟩ ∧ b < w.heap.size ∧ ∀ (i : Nat) (u : Value), h.cells[i]? = some u → w.cell? ⟨b, o + j * 4 + i, none⟩ = some u
theorem RdH.next {w w' : World} {v : Value} {L : List Hd} (h : RdH w v L) (hb : Below w.heap.size w w') : RdH w' v L := by
 obtain ⟨p, c, h1, h2⟩ := h
 refine ⟨p, c, h1, fun j x hx => ?_⟩
 obtain ⟨b, o, e, hlt, hc⟩ := h2 j x hx
 exact ⟨b, o, e, Nat.lt_of_lt_of_le hlt hb.size, fun i u hu => (hb.cell (p := ⟨b, o + j * 4 + i, none⟩) hlt).trans (hc i u hu)⟩
theorem RdH.nil (w : World) : RdH w (.slice none 0 0) [] := ⟨none, 0, rfl, fun j h hj => by cases hj⟩
def isP (i : Int) (s : ByteArray) (h : Hd) : Bool := decide (h.win = i ∧ h.p.name = s)
def placeN (L : List Hd) (i : Int) (s : ByteArray) : Nat := L.findIdx (isP i s)
def placeI (L : List Hd) (i : Int) (s : ByteArray) : Int := if placeN L i s < L.length then (placeN L i s : Int) else -1
theorem placeN_at {L : List Hd} {i : Int} {s : ByteArray} {k : Nat} {h : Hd} (hk : L[k]? = some h) (hy : isP i s h = true) (hn : ∀ j x, j < k → L[j]? = some x → isP i s x = false) : placeN L i s = k := by
 have hl := (List.getElem?_eq_some_iff.1 hk).1
 have he := (List.getElem?_eq_some_iff.1 hk).2
 unfold placeN
 rw [List.findIdx_eq hl]
 exact ⟨by rw [he]; exact hy, fun j hj => by
  have h2 := hn j (L[j]'(by omega)) hj (List.getElem?_eq_getElem (by omega))
  simpa using h2⟩
theorem placeN_no {L : List Hd} {i : Int} {s : ByteArray} (hn : ∀ j x, j < L.length → L[j]? = some x → isP i s x = false) : placeN L i s = L.length := by
 unfold placeN
 exact List.findIdx_eq_length.2 fun x hx => by
  obtain ⟨j, hj, he⟩ := List.getElem_of_mem hx
  exact hn j x hj (by rw [List.getElem?_eq_getElem hj, he])
theorem tl_ne {a b : ByteArray} (h : ¬ a = b) : ¬ a.toList = b.toList := fun e => h (by rw [ByteArray.toList_eq, ByteArray.toList_eq] at e; exact bytes_eq e)
section
variable {w : World} {v : Value} {L : List Hd}
set_option maxRecDepth 100000 in
set_option maxHeartbeats 2000000 in
theorem place_c (h : RdH w v L) (hl : L.length ≤ 1048576) (i : Int) (s : ByteArray) : Calls Tryz.prog 65 #[v, .int .i64 i, .string s] w fun e w' => e = .returned (.int .i64 (placeI L i s)) ∧ w = w' := by
 obtain ⟨p, c, rfl, hc⟩ := h
 have HC := Lib.hid hc
 obtain ⟨n, hn⟩ : ∃ n, n = L.length := ⟨_, rfl⟩
 rw [← hn] at hl ⊢
 have HN := Lib.hid hn
 clear hc hn
 go_enter Tryz.func65, Tryz.ntmps65
 go_wp2_with fail
 go_loopw [7] (fun z wr => ∃ k : Nat, k ≤ n ∧ z = .int .i64 k ∧ wr = w ∧ Asd (∀ j x, j < k → L[j]? = some x → isP i s x = false)) (fun z _ => n - (intOf z).toNat)
 case atStart => exact ⟨0, Nat.zero_le _, rfl, rfl, fun j x hj => absurd hj (Nat.not_lt_zero _)⟩
 case round =>
  obtain ⟨k, hk, rfl, rfl, hA⟩ := hrel
  have HA := Lib.hid (show ∀ j x, j < k → L[j]? = some x → isP i s x = false from hA)
  have hk0 : (0 : Int) ≤ (k : Int) := by omega
  clear hA
  by_cases hlt : k < n
  · have hk1 : (k : Int) < (n : Int) := by omega
    obtain ⟨x, hx⟩ : ∃ x, L[k]? = some x := ⟨_, List.getElem?_eq_getElem (by rw [← HN.out]; exact hlt)⟩
    obtain ⟨b, o, rfl, hb, hcl⟩ := HC.out k x hx
    obtain ⟨xw, xn, xt, xd⟩ := x
    have c0 := hcl 0 _ rfl
    have c1 := hcl 1 _ rfl
    have HXX := Lib.hid hx
    simp only [Nat.add_zero] at c0
    clear hcl hx hb
    by_cases hw : xw = i
    · subst hw
      by_cases hs : xn = s
      · have HR := Lib.hid (show placeI L xw s = (k : Int) from by
          have hp := placeN_at HXX.out (show isP xw s ⟨xw, xn, xt, xd⟩ = true by simp [isP, hs]) HA.out
          unfold placeI
          rw [hp, if_pos (by rw [← HN.out]; exact hlt)])
        subst hs
        go_wp2_with fail
        go_ret
        exact ⟨by rw [HR.out]; rfl, rfl⟩
      · have hs' := tl_ne hs
        have hs2 : (xn.toList == s.toList) = false := by simpa using hs'
        have HNO := Lib.hid (show isP xw s ⟨xw, xn, xt, xd⟩ = false by simp [isP, hs])
        go_wp2_with fail
        go_roundw
        case rel => exact ⟨k + 1, by omega, by go_num, trivial, fun j x hj hx => by
          rcases Nat.lt_or_ge j k with hjk | hjk
          · exact HA.out j x hjk hx
          · obtain rfl : j = k := by omega
            rw [HXX.out] at hx; injection hx with hx; rw [← hx]; exact HNO.out⟩
        case measure => simp [intOf]; omega
    · have HNO := Lib.hid (show isP i s ⟨xw, xn, xt, xd⟩ = false by simp [isP, hw])
      go_wp2_with fail
      go_roundw
      case rel => exact ⟨k + 1, by omega, by go_num, trivial, fun j x hj hx => by
        rcases Nat.lt_or_ge j k with hjk | hjk
        · exact HA.out j x hjk hx
        · obtain rfl : j = k := by omega
          rw [HXX.out] at hx; injection hx with hx; rw [← hx]; exact HNO.out⟩
      case measure => simp [intOf]; omega
  · obtain rfl : k = n := by omega
    have HR := Lib.hid (show placeI L i s = -1 from by
      have hp := placeN_no (L := L) (i := i) (s := s) (by rw [← HN.out]; exact HA.out)
      unfold placeI
      rw [hp, if_neg (Nat.lt_irrefl _)])
    go_wp2_with fail
    go_ret
    exact ⟨by rw [HR.out]; rfl, rfl⟩
end
end Go.Proofs.YtnhchpiafchdgaaGreat.Pp
end
section
namespace Go.Proofs.YtnhchpiafchdgaaGreat.Pp
open Go.RowKit Go.Shelf Go.Maps
theorem take_snoc_get {α : Type} {l : List α} {k : Nat} {x : α} (h : l[k]? = some x) : l.take (k + 1) = l.take k ++ [x] := by
 rw [List.take_add_one, h]; rfl
def OwK {α : Type} (enc : α → List Value) (T : TypeId) (k : Nat) (w : World) (base : Nat) (v : Value) (xs : List α) : Prop := w.ownsRow base T k v xs.length (xs.flatMap enc)
section
variable {α : Type} {enc : α → List Value} {T : TypeId} {k : Nat} {w w' : World} {base : Nat} {v : Value} {xs : List α}
theorem OwK.nil (w : World) (base : Nat) : OwK enc T k w base (.slice none 0 0) [] := World.ownsRow_nil w base _ _
theorem OwK.grown {row : Option Nat} (h : OwK enc T k w base v xs) (hg : w.grownBy w' row) (hne : v.ownBlock = none ∨ v.ownBlock ≠ row) : OwK enc T k w' base v xs := World.ownsRow.kept h hg hne
theorem OwK.below (h : OwK enc T k w base v xs) (hb : Below w.heap.size w w') : OwK enc T k w' base v xs := by
 refine h.grown (only_of_below hb none) ?_
 cases v.ownBlock with
 | none => exact .inl rfl
 | some g => exact .inr (by simp)
theorem OwK.less {base' : Nat} (h : OwK enc T k w base v xs) (hb : base' ≤ base) : OwK enc T k w base' v xs := by
 obtain ⟨h1, h2⟩ := h
 refine ⟨h1, ?_⟩
 rcases h2 with h2 | ⟨g, cap, cur, a, b, c⟩
 · exact .inl h2
 · exact .inr ⟨g, cap, cur, a, Nat.le_trans hb b, c⟩
theorem OwK.lt (h : OwK enc T k w base v xs) {g : Nat} (hg : v.ownBlock = some g) : base ≤ g ∧ g < w.heap.size := World.ownsRow.lt h g hg
theorem flat_len (hk : ∀ x, (enc x).length = k) (xs : List α) : (xs.flatMap enc).length = xs.length * k := by
 induction xs with
 | nil => simp
 | cons x t ih => rw [List.flatMap_cons, List.length_append, hk, ih, List.length_cons, Nat.add_mul]; omega
theorem flat_get (hk : ∀ x, (enc x).length = k) : ∀ (xs : List α) (j : Nat) (x : α) (i : Nat) (u : Value), xs[j]? = some x → (enc x)[i]? = some u → (xs.flatMap enc)[j * k + i]? = some u
 | [], j, x, i, u, hx, _ => by simp at hx
 | y :: t, 0, x, i, u, hx, hu => by
  simp only [List.getElem?_cons_zero, Option.some.injEq] at hx
  subst hx
  have hi := (List.getElem?_eq_some_iff.1 hu).1
  rw [List.flatMap_cons, Nat.zero_mul, Nat.zero_add, List.getElem?_append_left hi]
  exact hu
 | y :: t, j + 1, x, i, u, hx, hu => by
  rw [List.getElem?_cons_succ] at hx
  have := flat_get hk t j x i u hx hu
  rw [List.flatMap_cons, List.getElem?_append_right (by rw [hk, Nat.add_mul]; omega), hk]
  rw [show (j + 1) * k + i - k = j * k + i by rw [Nat.add_mul]; omega]
  exact this
theorem OwK.form (hk : ∀ x, (enc x).length = k) (h : OwK enc T k w base v xs) (hne : xs ≠ []) : ∃ g cap, v = .slice (some ⟨g, 0, none⟩) xs.length cap ∧ base ≤ g ∧ g < w.heap.size ∧
   (∀ (j : Nat) (x : α) (i : Nat) (u : Value), xs[j]? = some x → (enc x)[i]? = some u → w.cell? ⟨g, j * k + i, none⟩ = some u) ∧ ∀ j, w.frozen? ⟨g, j, none⟩ = false := by
 have h0 := h
 obtain ⟨hlen, h1⟩ := h
 rcases h1 with ⟨_, hn⟩ | ⟨g, cap, cur, rfl, hb, hg, hnc, hm, hs, ht⟩
 · exact absurd (List.eq_nil_of_length_eq_zero hn) hne
 · refine ⟨g, cap, rfl, hb, (World.ownsRow.lt h0 g rfl).2, fun j x i u hx hu => ?_, fun j => World.ownsRow.frozenAt h0 j⟩
   have h2 := flat_get hk xs j x i u hx hu
   have h3 := (List.getElem?_eq_some_iff.1 h2).1
   rw [hlen] at h3
   exact (World.ownsRow.cellAt h0 _ h3).trans h2
theorem OwK.slice (h : OwK enc T k w base v xs) : ∃ p c, v = .slice p xs.length c := by
 obtain ⟨_, h1⟩ := h
 rcases h1 with ⟨rfl, hn⟩ | ⟨g, cap, cur, rfl, _⟩
 · rw [hn]; exact ⟨_, _, rfl⟩
 · exact ⟨_, _, rfl⟩
theorem OwK.reads (hk : ∀ x, (enc x).length = k) (h : OwK enc T k w base v xs) : RdK enc k w v xs := by
 by_cases hne : xs = []
 · subst hne
   obtain ⟨p, c, rfl⟩ := h.slice
   exact ⟨p, c, rfl, fun j x hx => by simp at hx⟩
 · obtain ⟨g, cap, rfl, _, hl, hc, _⟩ := h.form hk hne
   exact ⟨_, cap, rfl, fun j x hx => ⟨g, 0, rfl, hl, fun i u hu => by rw [Nat.zero_add]; exact hc j x i u hx hu⟩⟩
end
theorem run_app {P : Program} (w : World) (t ty : TypeId) (base : Nat) (e : TypeId) (i : TypeInfo) (z : Value) (size bytes : Nat) (ht : P.underlying t = some (.slice e)) (hi : P.info? e = some i) (hz : i.zero = some z)
   (hsize : i.size = size) (hby : i.bytes = bytes) (hzs : z.cells.size = size) (hsz : 0 < size) (v : Value) (n : Nat) (xs : List Value) (hown : w.ownsRow base e size v n xs)
   (B : Nat) (u : Value) (m : Nat) (news : List Value) (hu : w.ownsRow B e size u m news) (h1 : ∀ q ∈ news, q.oneCell' = true) (h63 : n + m ≤ maxLen) (hbytes : (n + m) * bytes ≤ 140737488355328) (hbase : base ≤ w.heap.size) :
   ∃ v' w', (Builtin.append_ #[t, t] ty #[v, u]).run P w = .ok v' w' ∧ w'.ownsRow base e size v' (n + m) (xs ++ news) ∧ w.grownBy w' v.ownBlock := by
 have hc := fun g (hg : u.ownBlock = some g) => World.ownsRow.cells hu hg
 obtain ⟨hl, h2⟩ := hu
 rcases h2 with ⟨rfl, rfl⟩ | ⟨g, cap, cur, rfl, _⟩
 · obtain rfl : news = [] := List.eq_nil_of_length_eq_zero (by simpa using hl)
   exact ⟨v, w, run_append_owned_none (P := P) (w := w) base t ty e i size ht hi v n xs hown, by simpa using hown, World.grownBy.refl w _⟩
 · obtain ⟨v', w', k1, k2, k3, _⟩ := run_append_own_at (P := P) w base t ty e i z size bytes ht hi hz hsize hby hzs hsz v n xs hown ⟨g, 0, none⟩ m cap news hl (hc g rfl) h1 h63 hbytes hbase
   exact ⟨v', w', k1, k2, k3⟩
theorem wp_app {P : Program} {w : World} {o : Oper} {a : Act} {K : Act → World → Prop} {Q : Exit → Act → World → Prop} (s x : Operand) (t : TypeId)
  (ho : o.op = .call { callee := .builtin .append, args := #[s, x], argTypes := #[t, t] })
  (base : Nat) (e : TypeId) (i : TypeInfo) (z : Value) (size bytes : Nat) (ht : P.underlying t = some (.slice e)) (hi : P.info? e = some i) (hz : i.zero = some z)
  (hsize : i.size = size) (hby : i.bytes = bytes) (hzs : z.cells.size = size) (hsz : 0 < size) (v : Value) (n : Nat) (xs : List Value) (hs : a.eval s = v) (hown : w.ownsRow base e size v n xs)
  (B : Nat) (u : Value) (m : Nat) (news : List Value) (hx : a.eval x = u) (hu : w.ownsRow B e size u m news) (h1 : ∀ q ∈ news, q.oneCell' = true) (h63 : n + m ≤ maxLen) (hbytes : (n + m) * bytes ≤ 140737488355328) (hbase : base ≤ w.heap.size)
  (h : ∀ v' w', w'.ownsRow base e size v' (n + m) (xs ++ news) → w.grownBy w' v.ownBlock → K (a.put o.dst v') w') : o.wp P a w K Q := by
 obtain ⟨v', w', k1, k2, k3⟩ := run_app (P := P) w t o.type base e i z size bytes ht hi hz hsize hby hzs hsz v n xs hown B u m news hu h1 h63 hbytes hbase
 unfold Oper.wp execOp
 simp only [ho, resolve, invoke, builtin, Sem.run_bind, Sem.run_pure, Result.andThen_ok, List.map_toArray, List.map_cons, List.map_nil, hs, hx, k1]
 exact h v' w' k2 k3
theorem list_app {P : Program} {w : World} {ops : Array Oper} {rest : List Oper} {o : Oper} {a : Act} {Q : Exit → Act → World → Prop} (hgd : o.guard = none) (s x : Operand) (t : TypeId)
  (ho : o.op = .call { callee := .builtin .append, args := #[s, x], argTypes := #[t, t] })
  (base : Nat) (e : TypeId) (i : TypeInfo) (z : Value) (size bytes : Nat) (ht : P.underlying t = some (.slice e)) (hi : P.info? e = some i) (hz : i.zero = some z)
  (hsize : i.size = size) (hby : i.bytes = bytes) (hzs : z.cells.size = size) (hsz : 0 < size) (v : Value) (n : Nat) (xs : List Value) (hs : a.eval s = v) (hown : w.ownsRow base e size v n xs)
  (B : Nat) (u : Value) (m : Nat) (news : List Value) (hx : a.eval x = u) (hu : w.ownsRow B e size u m news) (h1 : ∀ q ∈ news, q.oneCell' = true) (h63 : n + m ≤ maxLen) (hbytes : (n + m) * bytes ≤ 140737488355328) (hbase : base ≤ w.heap.size)
  (h : ∀ v' w', w'.ownsRow base e size v' (n + m) (xs ++ news) → w.grownBy w' v.ownBlock → wpList P ops Q rest (a.put o.dst v') w') : wpList P ops Q (o :: rest) a w :=
 wpList_plain hgd fun _ hK => wp_app s x t ho base e i z size bytes ht hi hz hsize hby hzs hsz v n xs hs hown B u m news hx hu h1 h63 hbytes hbase fun v' w' h2 h3 => hK _ _ (h v' w' h2 h3)
theorem step_app {P : Program} {w : World} {ops : Array Oper} {o : Oper} {a : Act} {K : Act → World → Prop} {Q : Exit → Act → World → Prop} {E : Prop} (hgd : o.guard = none) (s x : Operand) (t : TypeId)
  (ho : o.op = .call { callee := .builtin .append, args := #[s, x], argTypes := #[t, t] })
  (base : Nat) (e : TypeId) (i : TypeInfo) (z : Value) (size bytes : Nat) (ht : P.underlying t = some (.slice e)) (hi : P.info? e = some i) (hz : i.zero = some z)
  (hsize : i.size = size) (hby : i.bytes = bytes) (hzs : z.cells.size = size) (hsz : 0 < size) (v : Value) (n : Nat) (xs : List Value) (hs : a.eval s = v) (hown : w.ownsRow base e size v n xs)
  (B : Nat) (u : Value) (m : Nat) (news : List Value) (hx : a.eval x = u) (hu : w.ownsRow B e size u m news) (h1 : ∀ q ∈ news, q.oneCell' = true) (h63 : n + m ≤ maxLen) (hbytes : (n + m) * bytes ≤ 140737488355328) (hbase : base ≤ w.heap.size)
  (h : ∀ v' w', w'.ownsRow base e size v' (n + m) (xs ++ news) → w.grownBy w' v.ownBlock → K (a.put o.dst v') w') : if Region.wanted o (yielded ops a.tmps) = true then Oper.wp P o a w K Q else E := by
 have hw : Region.wanted o (yielded ops a.tmps) = true := by simp [Region.wanted, hgd]
 rw [if_pos hw]
 exact wp_app s x t ho base e i z size bytes ht hi hz hsize hby hzs hsz v n xs hs hown B u m news hx hu h1 h63 hbytes hbase h
def encH (h : Hd) : List Value := [.int .i64 h.win, .string h.p.name, .string h.p.typ, .string h.p.data]
def encP (p : Pr) : List Value := [.string p.name, .string p.typ, .string p.data]
theorem encH_len (h : Hd) : (encH h).length = 4 := rfl
theorem encP_len (h : Pr) : (encP h).length = 3 := rfl
theorem RdH.of {w : World} {v : Value} {L : List Hd} (h : RdK encH 4 w v L) : RdH w v L := h
theorem oneCell_encH (v : Hd) : ∀ u ∈ encH v, u.oneCell' = true := by
 intro u hu
 simp only [encH, List.mem_cons, List.not_mem_nil, or_false] at hu
 rcases hu with rfl | rfl | rfl | rfl <;> rfl
theorem oneCell_encP (v : Pr) : ∀ u ∈ encP v, u.oneCell' = true := by
 intro u hu
 simp only [encP, List.mem_cons, List.not_mem_nil, or_false] at hu
 rcases hu with rfl | rfl | rfl <;> rfl
theorem heldInfo : (Tryz.prog.info? 120).map (fun i => (i.zero, i.size, i.bytes)) = some (some (.agg #[.int .i64 0, .string ByteArray.empty, .string ByteArray.empty, .string ByteArray.empty]), 4, 56) := by kernel_rfl
abbrev OH (w : World) (B : Nat) (v : Value) (L : List Hd) : Prop := OwK encH 120 4 w B v L
theorem OH.rd {w : World} {B : Nat} {v : Value} {L : List Hd} (h : OH w B v L) : RdH w v L := RdH.of (OwK.reads encH_len h)
def dropH (i : Int) (L : List Hd) : List Hd := L.filter (fun h => !decide (h.win = i))
theorem filter_snoc {α : Type} (f : α → Bool) {L : List α} {k : Nat} {x : α} (hx : L[k]? = some x) : (L.take (k + 1)).filter f = if f x = true then (L.take k).filter f ++ [x] else (L.take k).filter f := by
 rw [take_snoc_get hx, List.filter_append]
 cases h : f x <;> simp [h]
theorem filter_len {α : Type} (f : α → Bool) (L : List α) (k : Nat) : ((L.take k).filter f).length ≤ L.length := by
 refine Nat.le_trans (List.length_filter_le _ _) ?_
 rw [List.length_take]; omega
def GhS (w : World) (wr : World) (v : Value) (xs : List Hd) : Prop := OH wr w.heap.size v xs ∧ Below w.heap.size w wr
theorem GhS.put {w wr w1 : World} {v v' : Value} {xs : List Hd} {u : Hd} {o : Obj} (h : GhS w wr v xs) (ho : w1.ownsRow w.heap.size 120 4 v' (xs.length + 1) (xs.flatMap encH ++ encH u)) (hg : (wr.alloc o).grownBy w1 v.ownBlock) : GhS w w1 v' (xs ++ [u]) := by
 refine ⟨?_, below_only (h.2.alloc h.2.size _) hg (by have := h.2.size; simp; omega) (fun k hk => (h.1.lt hk).1)⟩
 show w1.ownsRow w.heap.size 120 4 v' (xs ++ [u]).length ((xs ++ [u]).flatMap encH)
 rw [List.length_append, List.flatMap_append]
 simpa using ho
section
variable {w : World} {v : Value} {L : List Hd}
set_option maxRecDepth 100000 in
set_option maxHeartbeats 4000000 in
theorem rdrop_c (h : RdH w v L) (hL : L.length ≤ 1048576) (i : Int) :
  Calls Tryz.prog 89 #[v, .int .i64 i] w fun e w' => ∃ v', e = .returned (v') ∧ OH w' w.heap.size v' (dropH i L) ∧ Below w.heap.size w w' := by
 obtain ⟨i0, hi0, hz0, hz1, hz2⟩ := info_parts heldInfo
 obtain ⟨p, c, rfl, hc⟩ := h
 obtain ⟨n, hn⟩ : ∃ n, n = L.length := ⟨_, rfl⟩
 rw [← hn] at hL ⊢
 have HC := Lib.hid (fun (wr : World) (hr : Below w.heap.size w wr) (j : Nat) (x : Hd) (hx : L[j]? = some x) => (show ∃ b o, p = some ⟨b, o, none⟩ ∧ ∀ (i : Nat) (u : Value), x.cells[i]? = some u → wr.cell? ⟨b, o + j * 4 + i, none⟩ = some u from by
  obtain ⟨b, o, h1, h2, h3⟩ := hc j x hx
  exact ⟨b, o, h1, fun i u hu => (hr.cell (p := ⟨b, o + j * 4 + i, none⟩) h2).trans (h3 i u hu)⟩))
 have HN := Lib.hid hn
 have HLL := Lib.hid (fun k => (show (dropH i (L.take k)).length ≤ L.length from filter_len _ L k))
 have hm0 : (n : Int) ≤ 1048576 := by omega
 clear hc hn
 go_enter Tryz.func89, Tryz.ntmps89
 go_wp2_with fail
 go_loopw [5, 6] (fun y z wr => ∃ k : Nat, k ≤ n ∧ z = .int .i64 k ∧ GhS w wr y (dropH i (L.take k))) (fun _ z _ => n - (intOf z).toNat)
 case atStart => exact ⟨0, Nat.zero_le _, rfl, OwK.nil _ _, Below.refl _ _⟩
 case round =>
  obtain ⟨k, hk, rfl, hG⟩ := hrel
  have HG := Lib.hid hG
  have hi0' : (0 : Int) ≤ (k : Int) := by omega
  by_cases hlt : k < n
  · obtain ⟨x, hx⟩ : ∃ x, L[k]? = some x := ⟨_, List.getElem?_eq_getElem (by rw [← HN.out]; exact hlt)⟩
    obtain ⟨b, o, rfl, hb2⟩ := HC.out wr hG.2 k x hx
    have r0 := hb2 0 _ rfl
    have r1 := hb2 1 _ rfl
    have r2 := hb2 2 _ rfl
    have r3 := hb2 3 _ rfl
    simp only [Nat.add_zero] at r0
    have hsn := filter_snoc (fun h => !decide (h.win = i)) hx
    clear hb2 hG hx
    have hi1 : (k : Int) < (n : Int) := by omega
    by_cases hvi : x.win = i
    · have h1 : (x.win == i) = true := by simpa using hvi
      have h2 : (x.win != i) = false := by simpa using hvi
      have HSN := Lib.hid (hsn.trans (if_neg (by simp [hvi])))
      clear hsn
      go_wp2_with fail
      go_roundw
      case rel => exact ⟨k + 1, by omega, by go_num, by show GhS w _ _ ((L.take (k + 1)).filter _); rw [HSN.out]; exact HG.out⟩
      case measure => simp [intOf]; omega
    · have h1 : (x.win == i) = false := by simpa using hvi
      have h2 : (x.win != i) = true := by simpa using hvi
      have HSN := Lib.hid (hsn.trans (if_pos (by simp [hvi])))
      clear hsn
      go_wp2_with (at_builtin; refine wpList_append_own_at _ rfl (.tmp 20) (.tmp 25) 55 rfl w.heap.size 120 i0 (.agg #[.int .i64 0, .string ByteArray.empty, .string ByteArray.empty, .string ByteArray.empty]) 4 56 Tryz.underlying55 hi0 hz0 hz1 hz2 rfl (by decide) _ _ _ rfl (World.ownsRow.alloc HG.out.1 _) ⟨_, 0, none⟩ 1 1 (encH x) rfl rfl (cell_list_at _ _ (encH x) _ rfl) (oneCell_encH x) (by unfold maxLen; have := HLL.out k; have := HN.out; omega) (by have := HLL.out k; have := HN.out; omega) (by have := HG.out.2.size; simp; omega) ?_; intro v3 w3 ho3 hg3 _ _; have HP := Lib.hid (HG.out.put ho3 hg3); clear ho3 hg3)
      go_roundw
      case rel => exact ⟨k + 1, by omega, by go_num, by show GhS w _ _ ((L.take (k + 1)).filter _); rw [HSN.out]; exact HP.out⟩
      case measure => simp [intOf]; omega
  · obtain rfl : k = n := by omega
    clear hG
    go_wp2_with fail
    go_ret
    exact ⟨_, rfl, by have h := HG.out.1; rw [HN.out, List.take_length] at h; exact h, HG.out.2⟩
end
end Go.Proofs.YtnhchpiafchdgaaGreat.Pp
end
section
namespace Go.Proofs.YtnhchpiafchdgaaGreat.Pp
open Go.RowKit Go.Maps
def IsNo (w : World) (v : Value) : Prop := v = .pointer none ∨ ∃ t, v = tabP t ∧ Blk w t 108 #[.map none]
section
variable {w w' : World} {v : Value}
theorem IsNo.next (h : IsNo w v) (hb : Below w.heap.size w w') : IsNo w' v := by
 rcases h with rfl | ⟨t, rfl, ht⟩
 · exact .inl rfl
 · exact .inr ⟨t, rfl, ht.next hb⟩
end
end Go.Proofs.YtnhchpiafchdgaaGreat.Pp
end
section
namespace Go.Proofs.YtnhchpiafchdgaaGreat.Pp
open Go.RowKit Go.Maps
theorem propInfo : (Tryz.prog.info? 35).map (fun i => (i.zero, i.size, i.bytes)) = some (some (.agg #[.string ByteArray.empty, .string ByteArray.empty, .string ByteArray.empty]), 3, 48) := by kernel_rfl
theorem neq_prop (a b c a' b' c' : ByteArray) (w : World) : (binOp .neq 35 (.agg #[.string a, .string b, .string c]) (.agg #[.string a', .string b', .string c'])).run Tryz.prog w = .ok (.bool (!decide (a = a' ∧ b = b' ∧ c = c'))) w := by
 have tl : ∀ a b : ByteArray, a.toList = b.toList ↔ a = b := fun a b => by
  rw [ByteArray.toList_eq, ByteArray.toList_eq]
  exact ⟨fun h => bytes_eq h, fun h => by rw [h]⟩
 by_cases h1 : a = a' <;> by_cases h2 : b = b' <;> by_cases h3 : c = c' <;> simp [go_sem, tl, h1, h2, h3]
section
variable {w : World} {v : Value}
end
end Go.Proofs.YtnhchpiafchdgaaGreat.Pp
end
section
namespace Go.Proofs.YtnhchpiafchdgaaGreat.Pp
open Go.RowKit Go.Shelf Go.Maps
def getL (L : List Hd) (i : Int) (s : ByteArray) : Option Pr := L[placeN L i s]?.map Hd.p
attribute [local go_sem ↓] neq_prop
section
variable {w : World} {v : Value} {L : List Hd}
set_option maxRecDepth 100000 in
set_option maxHeartbeats 4000000 in
theorem rget_c (h : RdH w v L) (hl : L.length ≤ 1048576) (i : Int) (s : ByteArray) :
   Calls Tryz.prog 40 #[v, .int .i64 i, .string s] w fun e w' => e = .returned (.tuple #[prV ((getL L i s).getD noP), .bool (getL L i s).isSome]) ∧ Below w.heap.size w w' := by
 obtain ⟨wb, hwb⟩ : ∃ wb, wb = w.alloc (.cells #[.string ⟨#[]⟩, .string ⟨#[]⟩, .string ⟨#[]⟩] 35) := ⟨_, rfl⟩
 have hbel : Below w.heap.size w wb := by rw [hwb]; exact (Below.refl _ _).alloc (Nat.le_refl _) _
 have hbx : Blk wb w.heap.size 35 #[.string ⟨#[]⟩, .string ⟨#[]⟩, .string ⟨#[]⟩] := by rw [hwb]; exact Blk.new w _ _
 have hpl := place_c (h.next hbel) hl i s
 obtain ⟨pi, hpi⟩ : ∃ pi, pi = placeI L i s := ⟨_, rfl⟩
 rw [← hpi] at hpl
 have HPL := Lib.hid hpl
 obtain ⟨⟨z0, z1, z2⟩, ⟨f0, f1, f2⟩⟩ := hbx.c3
 obtain ⟨p, c, rfl, hc⟩ := h.next hbel
 have HB := Lib.hid hbel
 have HW := Lib.hid hwb
 obtain ⟨n, hn⟩ : ∃ n, n = L.length := ⟨_, rfl⟩
 rw [← hn] at HPL ⊢
 by_cases hk : placeN L i s < L.length
 · obtain ⟨k, hkk⟩ : ∃ k, k = placeN L i s := ⟨_, rfl⟩
   obtain ⟨x, hx⟩ : ∃ x, L[k]? = some x := ⟨_, List.getElem?_eq_getElem (by rw [hkk]; exact hk)⟩
   have hg : getL L i s = some x.p := by unfold getL; rw [← hkk, hx]; rfl
   have hpk : pi = (k : Int) := by rw [hpi]; unfold placeI; rw [if_pos hk, hkk]
   subst hpk
   obtain ⟨b, o, rfl, hb, hcl⟩ := hc k x hx
   obtain ⟨xw, xn, xt, xd⟩ := x
   have c1 := hcl 1 _ rfl
   have c2 := hcl 2 _ rfl
   have c3 := hcl 3 _ rfl
   have hk0 : (0 : Int) ≤ (k : Int) := by omega
   have hk1 : (k : Int) < (n : Int) := by rw [hn, hkk]; omega
   have hk2 : ¬ (k : Int) < 0 := by omega
   have hkn : k < n := by omega
   rw [hg]
   show Calls Tryz.prog 40 #[.slice (some ⟨b, o, none⟩) n c, .int .i64 i, .string s] w fun e w' => e = .returned (.tuple #[.agg #[.string xn, .string xt, .string xd], .bool true]) ∧ Below w.heap.size w w'
   clear hpi hkk hx hg hc hcl hb hk hn hbel hbx hpl hl h
   go_enter Tryz.func40, Tryz.ntmps40
   go_upto_region 1 with fail
   rw [← HW.out]
   clear hwb
   go_wp2_with (go_at_call 65; ((with_reducible refine (HPL.out).mono ?_); rintro e w1 ⟨rfl, rfl⟩))
   refine bodyPost_ret (v := .tuple #[.agg #[.string xn, .string xt, .string xd], .bool true]) (by simp [results, Tryz.results40, go_sem, z0, z1, z2]) rfl ?_
   exact ⟨rfl, ((HB.out.setCell (Nat.le_refl _) _).setCell (Nat.le_refl _) _).setCell (Nat.le_refl _) _⟩
 · have hg : getL L i s = none := by unfold getL; rw [List.getElem?_eq_none (by omega)]; rfl
   have hpk : pi = -1 := by rw [hpi]; unfold placeI; rw [if_neg hk]
   subst hpk
   rw [hg]
   show Calls Tryz.prog 40 #[.slice p n c, .int .i64 i, .string s] w fun e w' => e = .returned (.tuple #[.agg #[.string ⟨#[]⟩, .string ⟨#[]⟩, .string ⟨#[]⟩], .bool false]) ∧ Below w.heap.size w w'
   clear hpi hg hc hk hn hbel hbx hpl hl h
   go_enter Tryz.func40, Tryz.ntmps40
   go_upto_region 1 with fail
   rw [← HW.out]
   clear hwb
   go_wp2_with (go_at_call 65; ((with_reducible refine (HPL.out).mono ?_); rintro e w1 ⟨rfl, rfl⟩))
   refine bodyPost_ret (v := .tuple #[.agg #[.string ⟨#[]⟩, .string ⟨#[]⟩, .string ⟨#[]⟩], .bool false]) (by simp [results, Tryz.results40, go_sem, z0, z1, z2]) rfl ?_
   exact ⟨rfl, ((HB.out.setCell (Nat.le_refl _) _).setCell (Nat.le_refl _) _).setCell (Nat.le_refl _) _⟩
end
end Go.Proofs.YtnhchpiafchdgaaGreat.Pp
end
section
namespace Go.Proofs.YtnhchpiafchdgaaGreat.Pp
def Ok (R : List Hd) : Prop := ∀ (j k : Nat) (a b : Hd), R[j]? = some a → R[k]? = some b → a.win = b.win → a.p.name = b.p.name → j = k
structure Inv (R : List Hd) (ms : Int → ByteArray → Option Pr) (ns : Int → Nat) : Prop where
 ok : Ok R
 mem : ∀ i s p, ms i s = some p ↔ (⟨i, p⟩ ∈ R ∧ p.name = s)
 cnt : ∀ i, (R.filter (fun h => decide (h.win = i))).length = ns i
theorem isP_iff {i : Int} {s : ByteArray} {h : Hd} : isP i s h = true ↔ (h.win = i ∧ h.p.name = s) := by unfold isP; simp
theorem getL_some {R : List Hd} (hR : Ok R) {i : Int} {s : ByteArray} {p : Pr} : getL R i s = some p ↔ (⟨i, p⟩ ∈ R ∧ p.name = s) := by
 unfold getL
 constructor
 · intro h
   obtain ⟨x, hx, rfl⟩ := Option.map_eq_some_iff.1 h
   have hl := (List.getElem?_eq_some_iff.1 hx).1
   have hp : isP i s x = true := by
    have h1 : isP i s (R[placeN R i s]'hl) = true := List.findIdx_getElem (xs := R) (p := isP i s) (w := hl)
    rw [(List.getElem?_eq_some_iff.1 hx).2] at h1
    exact h1
   obtain ⟨e1, e2⟩ := isP_iff.1 hp
   obtain ⟨xw, xp⟩ := x
   subst e1
   exact ⟨List.mem_of_getElem? hx, e2⟩
 · rintro ⟨h1, h2⟩
   obtain ⟨k, hk, he⟩ := List.getElem_of_mem h1
   have hk' : R[k]? = some ⟨i, p⟩ := by rw [List.getElem?_eq_getElem hk, he]
   have hpl : placeN R i s = k := placeN_at hk' (isP_iff.2 ⟨rfl, h2⟩) (fun j x hj hx => by
    cases hb : isP i s x with
    | false => rfl
    | true =>
     obtain ⟨e1, e2⟩ := isP_iff.1 hb
     have := hR j k x ⟨i, p⟩ hx hk' e1 (by rw [e2, h2])
     omega)
   rw [hpl, hk']; rfl
theorem Inv.get {R : List Hd} {ms : Int → ByteArray → Option Pr} {ns : Int → Nat} (h : Inv R ms ns) (i : Int) (s : ByteArray) : getL R i s = ms i s := by
 cases hm : ms i s with
 | some p => exact (getL_some h.ok).2 ((h.mem i s p).1 hm)
 | none =>
  cases hg : getL R i s with
  | none => rfl
  | some p =>
   have := (h.mem i s p).2 ((getL_some h.ok).1 hg)
   rw [hm] at this; cases this
theorem Inv.begin : Inv [] (fun _ _ => none) (fun _ => 0) :=
 ⟨fun j k a b h => (by simp at h), fun i s p => ⟨fun h => (by cases h), fun h => (by have := h.1; simp at this)⟩, fun _ => rfl⟩
theorem Ok.filter {R : List Hd} (h : Ok R) (f : Hd → Bool) : Ok (R.filter f) := by
 have hp : R.Pairwise (fun a b => ¬ (a.win = b.win ∧ a.p.name = b.p.name)) := by
   rw [List.pairwise_iff_getElem]
   intro j k hj hk hjk e
   have := h j k _ _ (List.getElem?_eq_getElem hj) (List.getElem?_eq_getElem hk) e.1 e.2
   omega
 have hq := hp.filter f
 rw [List.pairwise_iff_getElem] at hq
 intro j k a b ha hb e1 e2
 obtain ⟨hj, ea⟩ := List.getElem?_eq_some_iff.1 ha
 obtain ⟨hk, eb⟩ := List.getElem?_eq_some_iff.1 hb
 rcases Nat.lt_trichotomy j k with hlt | heq | hlt
 · exact absurd ⟨by rw [ea, eb, e1], by rw [ea, eb, e2]⟩ (hq j k hj hk hlt)
 · exact heq
 · exact absurd ⟨by rw [ea, eb, e1], by rw [ea, eb, e2]⟩ (hq k j hk hj hlt)
section
variable {R : List Hd} {ms : Int → ByteArray → Option Pr} {ns : Int → Nat}
theorem Inv.drop (h : Inv R ms ns) (i : Int) : Inv (dropH i R) (upI ms i (fun _ => none)) (upI ns i 0) := by
 refine ⟨h.ok.filter _, fun j s p => ?_, fun j => ?_⟩
 · by_cases hji : j = i
   · rw [hji, upI_same]
     constructor
     · intro hx; cases hx
     · rintro ⟨hx, -⟩
       have := (List.mem_filter.1 hx).2
       simp at this
   · rw [upI_other _ _ hji, h.mem j s p]
     unfold dropH
     rw [List.mem_filter]
     simp [hji]
 · unfold dropH
   rw [List.filter_filter]
   by_cases hji : j = i
   · rw [hji, upI_same, List.length_eq_zero_iff, List.filter_eq_nil_iff]
     intro x _ hx
     simp at hx
   · rw [upI_other _ _ hji, ← h.cnt j]
     congr 1
     apply List.filter_congr
     intro x _
     by_cases hx : x.win = j
     · simp [hx, hji]
     · simp [hx]
end
end Go.Proofs.YtnhchpiafchdgaaGreat.Pp
end
section
namespace Go.Proofs.YtnhchpiafchdgaaGreat.Pp
section
variable {R : List Hd} {ms : Int → ByteArray → Option Pr} {ns : Int → Nat}
theorem Inv.found (h : Inv R ms ns) {i : Int} {s : ByteArray} {q : Pr} (hm : ms i s = some q) : R[placeN R i s]? = some ⟨i, q⟩ := by
 have h1 := h.get i s
 rw [hm] at h1
 unfold getL at h1
 obtain ⟨x, hx, rfl⟩ := Option.map_eq_some_iff.1 h1
 have hl := (List.getElem?_eq_some_iff.1 hx).1
 have hp : isP i s (R[placeN R i s]'hl) = true := List.findIdx_getElem (xs := R) (p := isP i s) (w := hl)
 rw [(List.getElem?_eq_some_iff.1 hx).2] at hp
 obtain ⟨e1, -⟩ := isP_iff.1 hp
 rw [hx, ← e1]
theorem Inv.place (h : Inv R ms ns) (i : Int) (s : ByteArray) : decide (0 ≤ placeI R i s) = (ms i s).isSome := by
 unfold placeI
 cases hm : ms i s with
 | some q =>
  have h1 := (List.getElem?_eq_some_iff.1 (h.found hm)).1
  rw [if_pos h1]; simp
 | none =>
  have h1 := h.get i s
  rw [hm] at h1
  unfold getL at h1
  have h2 : ¬ placeN R i s < R.length := fun hl => by
   rw [List.getElem?_eq_getElem hl] at h1; cases h1
  rw [if_neg h2]; simp
theorem Inv.setHas (h : Inv R ms ns) {i : Int} {p : Pr} (hm : (ms i p.name).isSome = true) :
   Inv (R.set (placeN R i p.name) ⟨i, p⟩) (upI ms i (upS (ms i) p.name (some p))) (upI ns i (ns i)) := by
 obtain ⟨q, hq⟩ := Option.isSome_iff_exists.1 hm
 have hf := h.found hq
 have hqn := ((h.mem i p.name q).1 hq).2
 obtain ⟨k, hk⟩ : ∃ k, k = placeN R i p.name := ⟨_, rfl⟩
 rw [← hk] at hf ⊢
 obtain ⟨hkl, hke⟩ := List.getElem?_eq_some_iff.1 hf
 have old : ∀ (j : Nat) (a : Hd), (R.set k ⟨i, p⟩)[j]? = some a → (j = k ∧ a = ⟨i, p⟩) ∨ (j ≠ k ∧ R[j]? = some a) := fun j a ha => by
   by_cases hj : k = j
   · subst hj
     rw [List.getElem?_set_self hkl] at ha
     exact .inl ⟨rfl, (Option.some.inj ha).symm⟩
   · rw [List.getElem?_set_ne hj] at ha
     exact .inr ⟨fun e => hj e.symm, ha⟩
 refine ⟨fun j j' a b ha hb e1 e2 => ?_, fun j s' p' => ?_, fun j => ?_⟩
 · rcases old j a ha with ⟨rfl, rfl⟩ | ⟨hj, ha'⟩
   · rcases old j' b hb with ⟨rfl, -⟩ | ⟨hj', hb'⟩
     · rfl
     · exact h.ok _ _ _ _ hf hb' e1 (by rw [hqn]; exact e2)
   · rcases old j' b hb with ⟨rfl, rfl⟩ | ⟨hj', hb'⟩
     · exact h.ok _ _ _ _ ha' hf e1 (by rw [hqn]; exact e2)
     · exact h.ok _ _ _ _ ha' hb' e1 e2
 · have hmem : (⟨j, p'⟩ : Hd) ∈ R.set k ⟨i, p⟩ ↔ (j = i ∧ p' = p) ∨ ((⟨j, p'⟩ : Hd) ∈ R ∧ ¬ (j = i ∧ p'.name = p.name)) := by
     constructor
     · intro hx
       obtain ⟨m, hm', he⟩ := List.getElem_of_mem hx
       rcases old m ⟨j, p'⟩ (by rw [List.getElem?_eq_getElem hm', he]) with ⟨-, e⟩ | ⟨hmk, hR⟩
       · injection e with e1 e2
         exact .inl ⟨e1, e2⟩
       · refine .inr ⟨List.mem_of_getElem? hR, fun e => hmk ?_⟩
         exact h.ok m k _ _ hR hf e.1 (by rw [hqn]; exact e.2)
     · rintro (⟨rfl, rfl⟩ | ⟨hx, hne⟩)
       · exact List.mem_of_getElem? (List.getElem?_set_self hkl)
       · obtain ⟨m, hm', he⟩ := List.getElem_of_mem hx
         have hmk : k ≠ m := fun e => by
           subst e
           rw [hke] at he
           injection he with e1 e2
           exact hne ⟨e1.symm, by rw [← e2, hqn]⟩
         exact List.mem_of_getElem? (i := m) (by rw [List.getElem?_set_ne hmk, List.getElem?_eq_getElem hm', he])
   rw [hmem]
   by_cases hji : j = i
   · subst hji
     rw [upI_same]
     by_cases hss : s' = p.name
     · rw [hss, upS_same]
       constructor
       · intro e; rw [← Option.some.inj e]; exact ⟨.inl ⟨rfl, rfl⟩, rfl⟩
       · rintro ⟨⟨-, e⟩ | ⟨-, e⟩, e2⟩
         · rw [e]
         · exact absurd ⟨rfl, e2⟩ e
     · rw [upS_other _ _ hss, h.mem j s' p']
       constructor
       · rintro ⟨e1, e2⟩
         exact ⟨.inr ⟨e1, fun e => hss (by rw [← e2, e.2])⟩, e2⟩
       · rintro ⟨⟨-, e⟩ | ⟨e, -⟩, e2⟩
         · exact absurd (by rw [← e2, e]) hss
         · exact ⟨e, e2⟩
   · rw [upI_other _ _ hji, h.mem j s' p']
     simp [hji]
 · rw [upI_self, ← h.cnt j]
   have hs1 : R.set k ⟨i, p⟩ = R.take k ++ ⟨i, p⟩ :: R.drop (k + 1) := List.set_eq_take_append_cons_drop .. |>.trans (by rw [if_pos hkl])
   have hs2 : R = R.take k ++ ⟨i, q⟩ :: R.drop (k + 1) := by
     rw [← hke, List.getElem_cons_drop, List.take_append_drop]
   rw [hs1]
   conv => rhs; rw [hs2]
   rw [List.filter_append, List.filter_append, List.filter_cons, List.filter_cons]
   by_cases hij : i = j <;> simp [hij]
theorem Inv.setNew (h : Inv R ms ns) {i : Int} {p : Pr} (hm : ms i p.name = none) :
   Inv (R ++ [⟨i, p⟩]) (upI ms i (upS (ms i) p.name (some p))) (upI ns i (ns i + 1)) := by
 have hno : ∀ (j : Nat) (a : Hd), R[j]? = some a → a.win = i → a.p.name = p.name → False := fun j a ha e1 e2 => by
   have := (h.mem i p.name a.p).2 ⟨by rw [← e1]; exact List.mem_of_getElem? ha, e2⟩
   rw [hm] at this; cases this
 have old : ∀ (j : Nat) (a : Hd), (R ++ [⟨i, p⟩])[j]? = some a → (j = R.length ∧ a = ⟨i, p⟩) ∨ (j < R.length ∧ R[j]? = some a) := fun j a ha => by
   by_cases hj : j < R.length
   · rw [List.getElem?_append_left hj] at ha; exact .inr ⟨hj, ha⟩
   · have h1 := (List.getElem?_eq_some_iff.1 ha).1
     simp at h1
     obtain rfl : j = R.length := by omega
     rw [List.getElem?_concat_length] at ha
     exact .inl ⟨rfl, (Option.some.inj ha).symm⟩
 refine ⟨fun j j' a b ha hb e1 e2 => ?_, fun j s' p' => ?_, fun j => ?_⟩
 · rcases old j a ha with ⟨rfl, rfl⟩ | ⟨hj, ha'⟩
   · rcases old j' b hb with ⟨rfl, -⟩ | ⟨hj', hb'⟩
     · rfl
     · exact (hno _ _ hb' e1.symm e2.symm).elim
   · rcases old j' b hb with ⟨rfl, rfl⟩ | ⟨hj', hb'⟩
     · exact (hno _ _ ha' e1 e2).elim
     · exact h.ok _ _ _ _ ha' hb' e1 e2
 · rw [List.mem_append, List.mem_singleton]
   by_cases hji : j = i
   · subst hji
     rw [upI_same]
     by_cases hss : s' = p.name
     · rw [hss, upS_same]
       constructor
       · intro e; rw [← Option.some.inj e]; exact ⟨.inr rfl, rfl⟩
       · rintro ⟨e | e, e2⟩
         · have := (h.mem j p.name p').2 ⟨e, e2⟩
           rw [hm] at this; cases this
         · injection e with _ e; rw [e]
     · rw [upS_other _ _ hss, h.mem j s' p']
       constructor
       · rintro ⟨e1, e2⟩; exact ⟨.inl e1, e2⟩
       · rintro ⟨e | e, e2⟩
         · exact ⟨e, e2⟩
         · injection e with _ e; exact absurd (by rw [← e2, e]) hss
   · rw [upI_other _ _ hji, h.mem j s' p']
     simp [hji]
 · rw [List.filter_append, List.length_append, h.cnt j]
   by_cases hji : j = i
   · rw [hji, upI_same]; simp
   · have : ¬ i = j := fun e => hji e.symm
     rw [upI_other _ _ hji]; simp [this]
def setR (R : List Hd) (ms : Int → ByteArray → Option Pr) (ns : Int → Nat) (i : Int) (p : Pr) : List Hd :=
 if setE p (ms i) (ns i) = 0 then (if (ms i p.name).isSome then R.set (placeN R i p.name) ⟨i, p⟩ else R ++ [⟨i, p⟩]) else R
theorem Inv.set (h : Inv R ms ns) (i : Int) (p : Pr) : Inv (setR R ms ns i p) (setM ms ns i p) (setN ms ns i p) := by
 unfold setR setM setN
 split
 · cases hs : (ms i p.name).isSome with
   | true => exact h.setHas hs
   | false => exact h.setNew (by simpa using hs)
 · exact h
end
end Go.Proofs.YtnhchpiafchdgaaGreat.Pp
end
section
namespace Go.Proofs.YtnhchpiafchdgaaGreat.Pp
open Go.RowKit Go.Maps Go.Sort Go.Shelf
section
variable {w wr w1 : World} {sv u v' : Value} {ss : List (List UInt8)} {xs : List Pr}
end
end Go.Proofs.YtnhchpiafchdgaaGreat.Pp
end
section
namespace Go.Proofs.YtnhchpiafchdgaaGreat.Pp
open Go.Sort
abbrev nm (p : Pr) : List UInt8 := p.name.data.toList
def insP (p : Pr) : List Pr → List Pr
 | [] => [p]
 | x :: t => if nm x < nm p then x :: insP p t else p :: x :: t
def listR (R : List Hd) (i : Int) : List Pr := R.foldl (fun out h => if h.win = i then insP h.p out else out) []
theorem listR_snoc (R : List Hd) (h : Hd) (i : Int) : listR (R ++ [h]) i = if h.win = i then insP h.p (listR R i) else listR R i := by
 unfold listR
 rw [List.foldl_append]; rfl
theorem ins_perm (p : Pr) : ∀ l, (insP p l).Perm (p :: l)
 | [] => .refl _
 | x :: t => by
  unfold insP
  split
  · exact ((ins_perm p t).cons x).trans (List.Perm.swap p x t)
  · exact .refl _
theorem ins_at {p : Pr} : ∀ (i : Nat) (l : List Pr), i ≤ l.length → (∀ j x, j < i → l[j]? = some x → nm x < nm p) → (∀ x, l[i]? = some x → ¬ nm x < nm p) → insP p l = l.take i ++ [p] ++ l.drop i
 | 0, [], _, _, _ => rfl
 | 0, x :: t, _, _, h => by
  unfold insP
  rw [if_neg (h x rfl)]; rfl
 | i + 1, [], h, _, _ => by simp at h
 | i + 1, x :: t, h, hl, hg => by
  unfold insP
  rw [if_pos (hl 0 x (by omega) rfl), ins_at i t (by simpa using h) (fun j y hj hy => hl (j + 1) y (by omega) (by simpa using hy)) (fun y hy => hg y (by simpa using hy))]
  rfl
theorem snoc_ind {α : Type} {P : List α → Prop} (h0 : P []) (h1 : ∀ l x, P l → P (l ++ [x])) (l : List α) : P l := by
 have key : ∀ r : List α, P r.reverse := fun r => by
  induction r with
  | nil => exact h0
  | cons x t ih => rw [List.reverse_cons]; exact h1 _ _ ih
 have := key l.reverse
 rwa [List.reverse_reverse] at this
theorem listR_perm (i : Int) : ∀ R : List Hd, (listR R i).Perm (((R.filter (fun h => decide (h.win = i))).map Hd.p).reverse) := by
 intro R
 refine snoc_ind (P := fun R => (listR R i).Perm (((R.filter (fun h => decide (h.win = i))).map Hd.p).reverse)) (List.Perm.refl _) (fun R h ih => ?_) R
 · skip
   rw [listR_snoc, List.filter_append, List.map_append, List.reverse_append]
   by_cases hw : h.win = i
   · rw [if_pos hw]
     simp only [hw, decide_true, List.filter_cons_of_pos, List.filter_nil, List.map_cons, List.map_nil, List.reverse_singleton]
     exact (ins_perm _ _).trans (ih.cons _)
   · rw [if_neg hw]
     simpa [hw] using ih
theorem listR_len (R : List Hd) (i : Int) : (listR R i).length = (R.filter (fun h => decide (h.win = i))).length := by
 rw [(listR_perm i R).length_eq]; simp
section
variable {R : List Hd} {ms : Int → ByteArray → Option Pr} {ns : Int → Nat}
end
end Go.Proofs.YtnhchpiafchdgaaGreat.Pp
end
section
namespace Go.Proofs.YtnhchpiafchdgaaGreat.Pp
open Go.RowKit Go.Shelf Go.Maps Go.Sort
theorem OP.form {w : World} {B : Nat} {v : Value} {l : List Pr} (h : OwK encP 35 3 w B v l) : (v = .slice none 0 0 ∧ l = []) ∨ ∃ g cap, v = .slice (some ⟨g, 0, none⟩) l.length cap ∧ l.length ≤ cap ∧ g < w.heap.size ∧ ∀ (j : Nat) (u : Value), (l.flatMap encP)[j]? = some u → w.cell? ⟨g, j, none⟩ = some u := by
 rcases h.2 with ⟨k1, k2⟩ | ⟨g, cap, cur, k1, _, _, k2, _⟩
 · exact .inl ⟨k1, List.eq_nil_of_length_eq_zero k2⟩
 · subst k1
   refine .inr ⟨g, cap, rfl, k2, (OwK.lt h rfl).2, fun j u hu => ?_⟩
   have h3 := (List.getElem?_eq_some_iff.1 hu).1
   rw [flat_len encP_len] at h3
   exact (World.ownsRow.cellAt h _ h3).trans hu
def Qs (w0 : World) (g : Nat) (l : List Pr) (v : Value) (zs : List Pr) (wx : World) : Prop :=
 (∀ (j : Nat) (u : Value), (l.flatMap encP)[j]? = some u → wx.cell? ⟨g, j, none⟩ = some u) ∧ g < w0.heap.size ∧ OwK encP 35 3 wx w0.heap.size v zs ∧ Below w0.heap.size w0 wx
theorem Qs.made {w0 : World} {g : Nat} {l : List Pr} (hc : ∀ (j : Nat) (u : Value), (l.flatMap encP)[j]? = some u → w0.cell? ⟨g, j, none⟩ = some u) (hg : g < w0.heap.size) :
  Qs w0 g l (.slice (some ⟨w0.heap.size, 0, none⟩) 0 0) [] (w0.alloc (.cells #[] 35)) :=
 ⟨fun j u hu => (((Below.refl _ w0).alloc (Nat.le_refl _) _).cell (p := ⟨g, j, none⟩) hg).trans (hc j u hu), hg, World.ownsRow_made w0 #[] 0 (Nat.le_refl _) (by decide) rfl, (Below.refl _ _).alloc (Nat.le_refl _) _⟩
section
variable {w0 wx w1 : World} {g : Nat} {v v' : Value} {l zs zs' : List Pr}
theorem Qs.alloc (h : Qs w0 g l v zs wx) (o : Obj) : Qs w0 g l v zs (wx.alloc o) := by
 have hb := (Below.refl _ wx).alloc (Nat.le_refl _) o
 exact ⟨fun j u hu => (hb.cell (p := ⟨g, j, none⟩) (World.block_lt_of_cell? _ _ (h.1 j u hu))).trans (h.1 j u hu), h.2.1, h.2.2.1.below hb, h.2.2.2.trans (hb.mono h.2.2.2.size)⟩
theorem Qs.put (h : Qs w0 g l v zs wx) (hg : wx.grownBy w1 v.ownBlock) (ho : w1.ownsRow w0.heap.size 35 3 v' zs'.length (zs'.flatMap encP)) : Qs w0 g l v' zs' w1 := by
 refine ⟨fun j u hu => hg.cell (h.1 j u hu) (fun e => ?_), h.2.1, ho, below_only h.2.2.2 hg h.2.2.2.size (fun k hk => (h.2.2.1.lt hk).1)⟩
 have h1 := (h.2.2.1.lt e.symm).1; have h2 := h.2.1; dsimp only at h1; omega
theorem flat_take (k : Nat) (l : List Pr) : (l.take k).flatMap encP = (l.flatMap encP).take (k * 3) := by
 induction l generalizing k with
 | nil => simp
 | cons x t ih =>
  cases k with
  | zero => simp
  | succ k =>
   have e : List.take ((k + 1) * 3) (encP x) = encP x := List.take_of_length_le (by rw [encP_len]; omega)
   rw [List.take_succ_cons, List.flatMap_cons, List.flatMap_cons, ih, List.take_append, e, encP_len, show (k + 1) * 3 - 3 = k * 3 by omega]
theorem flat_drop (k : Nat) (l : List Pr) : (l.drop k).flatMap encP = (l.flatMap encP).drop (k * 3) := by
 induction l generalizing k with
 | nil => simp
 | cons x t ih =>
  cases k with
  | zero => simp
  | succ k =>
   have e : List.drop ((k + 1) * 3) (encP x) = [] := List.drop_of_length_le (by rw [encP_len]; omega)
   rw [List.drop_succ_cons, List.flatMap_cons, ih, List.drop_append, e, encP_len, show (k + 1) * 3 - 3 = k * 3 by omega]; rfl
theorem Qs.take (h : Qs w0 g l v zs wx) (k : Nat) : ∀ (j : Nat) (u : Value), ((l.take k).flatMap encP)[j]? = some u → wx.cell? ((⟨g, 0, none⟩ : Addr).add j) = some u := fun j u hu => by
 have hj := (List.getElem?_eq_some_iff.1 hu).1
 rw [flat_take, List.length_take] at hj
 rw [flat_take, List.getElem?_take_of_lt (by omega)] at hu
 rw [Addr.add_lit, Nat.zero_add]; exact h.1 j u hu
theorem Qs.drop (h : Qs w0 g l v zs wx) (k : Nat) : ∀ (j : Nat) (u : Value), ((l.drop k).flatMap encP)[j]? = some u → wx.cell? ((⟨g, k * 3, none⟩ : Addr).add j) = some u := fun j u hu => by
 rw [flat_drop, List.getElem?_drop] at hu
 rw [Addr.add_lit]; exact h.1 _ u hu
end
theorem one_flat (l : List Pr) : ∀ q ∈ l.flatMap encP, q.oneCell' = true := fun q hq => by
 obtain ⟨v, -, hv⟩ := List.mem_flatMap.1 hq
 exact oneCell_encP v q hv
set_option maxRecDepth 100000 in
set_option maxHeartbeats 8000000 in
theorem rlist_c {w : World} {v : Value} {L : List Hd} (h : RdH w v L) (hL : L.length ≤ 1048576) (i : Int) :
  Calls Tryz.prog 134 #[v, .int .i64 i] w fun e w' => ∃ v', e = .returned v' ∧ OwK encP 35 3 w' w.heap.size v' (listR L i) ∧ Below w.heap.size w w' := by
 obtain ⟨i0, hi0, hz0, hz1, hz2⟩ := info_parts propInfo
 obtain ⟨p, c, rfl, hc⟩ := h
 obtain ⟨n, hn⟩ : ∃ n, n = L.length := ⟨_, rfl⟩
 rw [← hn] at hL ⊢
 have HC := Lib.hid (fun (wr : World) (hr : Below w.heap.size w wr) (j : Nat) (x : Hd) (hx : L[j]? = some x) => (show ∃ b o, p = some ⟨b, o, none⟩ ∧ ∀ (i : Nat) (u : Value), x.cells[i]? = some u → wr.cell? ⟨b, o + j * 4 + i, none⟩ = some u from by
  obtain ⟨b, o, h1, h2, h3⟩ := hc j x hx
  exact ⟨b, o, h1, fun i u hu => (hr.cell (p := ⟨b, o + j * 4 + i, none⟩) h2).trans (h3 i u hu)⟩))
 have HN := Lib.hid hn
 have HLN := Lib.hid (fun k => (show (listR (L.take k) i).length ≤ L.length from by
  rw [listR_len]; exact filter_len _ L k))
 have hm0 : (n : Int) ≤ 1048576 := by omega
 clear hc hn
 go_enter Tryz.func134, Tryz.ntmps134
 go_wp2_with fail
 go_loopw [5, 6] (fun y z wr => ∃ k : Nat, k ≤ n ∧ z = .int .i64 k ∧ OwK encP 35 3 wr w.heap.size y (listR (L.take k) i) ∧ Below w.heap.size w wr) (fun _ z _ => n - (intOf z).toNat)
 case atStart => exact ⟨0, Nat.zero_le _, rfl, OwK.nil _ _, Below.refl _ _⟩
 case round =>
  obtain ⟨ii, hk, rfl, hO, hBl⟩ := hrel
  have HO := Lib.hid hO
  have HBL := Lib.hid hBl
  have hi0' : (0 : Int) ≤ (ii : Int) := by omega
  by_cases hlt : ii < n
  · obtain ⟨x, hx⟩ : ∃ x, L[ii]? = some x := ⟨_, List.getElem?_eq_getElem (by rw [← HN.out]; exact hlt)⟩
    have HXC0 := Lib.hid (fun W hW => HC.out W hW ii x hx)
    obtain ⟨b, o, rfl, hb2⟩ := HC.out wr hBl ii x hx
    obtain ⟨xw, pp⟩ := x
    have hsn : listR (L.take (ii + 1)) i = if xw = i then insP pp (listR (L.take ii) i) else listR (L.take ii) i := by rw [take_snoc_get hx, listR_snoc]
    have r0 := hb2 0 _ rfl
    have r1 := hb2 1 _ rfl
    have r2 := hb2 2 _ rfl
    have r3 := hb2 3 _ rfl
    simp only [Nat.add_zero] at r0
    have HXC := Lib.hid (fun W (hW : Below w.heap.size w W) => (show W.cell? ⟨b, o + ii * 4 + 1, none⟩ = some (.string pp.name) ∧ W.cell? ⟨b, o + ii * 4 + 1 + 1, none⟩ = some (.string pp.typ) ∧ W.cell? ⟨b, o + ii * 4 + 1 + 2, none⟩ = some (.string pp.data) from by
      obtain ⟨b', o', e, hh⟩ := HXC0.out W hW
      injection e with e
      injection e with e1 e2
      subst e1 e2
      exact ⟨hh 1 _ rfl, hh 2 _ rfl, hh 3 _ rfl⟩))
    clear hb2 hx hO HXC0
    have hi1 : (ii : Int) < (n : Int) := by omega
    by_cases hvi : xw = i
    · have h1 : (xw == i) = true := by simpa using hvi
      have h2 : (xw != i) = false := by simpa using hvi
      rw [if_pos hvi] at hsn
      have HSN := Lib.hid hsn
      clear hvi hsn
      obtain ⟨l, hl⟩ : ∃ l, l = listR (L.take ii) i := ⟨_, rfl⟩
      have HLM0 := Lib.hid (show l.length ≤ 1048576 from by rw [hl]; exact Nat.le_trans (HLN.out ii) (by rw [← HN.out]; omega))
      have HO' := Lib.hid (show OwK encP 35 3 wr w.heap.size _ l from hl ▸ HO.out)
      have HSN' := Lib.hid (show listR (L.take (ii + 1)) i = insP pp l from hl ▸ HSN.out)
      clear hl HSN HO
      rcases OP.form HO'.out with ⟨rfl, rfl⟩ | ⟨g, cap, rfl, hcap, hg, hfl⟩
      · go_wp2_with fail
        go_loopw [7] (fun z wq => ∃ q : Nat, z = .int .i64 0 ∧ wq = wr.drewN q) (fun z _ => 0)
        case atStart => exact ⟨0, rfl, rfl⟩
        case round =>
         obtain ⟨q, rfl, rfl⟩ := hrel
         go_upto_region 7 with fail
         go_wp2_with fail
         go_quiet (fail)
         have hbq : Below wr.heap.size wr ((wr.drewN q).drewN nq) := below_drewN (below_drewN (Below.refl _ _) _) _
         generalize (wr.drewN q).drewN nq = w0 at hbq ⊢
         have HBQ := Lib.hid (hbq.on hBl hBl.size)
         have hO1 : OwK encP 35 3 (w0.alloc (.cells #[] 35)) w0.heap.size (.slice (some ⟨w0.heap.size, 0, none⟩) 0 0) [] := World.ownsRow_made w0 #[] 0 (Nat.le_refl _) (by decide) rfl
         have HO1 := Lib.hid hO1
         clear hO1 hbq r0 r1 r2 r3
         go_upto_region 9 with fail
         have HB1 := Lib.hid (HBQ.out.alloc HBQ.out.size (.cells #[] 35))
         have HZ1 := Lib.hid (show w0.heap.size ≤ (w0.alloc (.cells #[] 35)).heap.size by simp)
         obtain ⟨r1, r2, r3⟩ := HXC.out _ HB1.out
         go_wp2_with (first
           | (at_builtin; refine wpList_append_own_none rfl (.tmp 42) (.tmp 45) 169 rfl w0.heap.size 35 i0 3 Tryz.underlying169 hi0 _ _ _ rfl HO1.out rfl ?_)
           | (at_builtin; (refine wpList_append_own_at _ rfl (.tmp 47) (.tmp 53) 169 rfl w0.heap.size 35 i0 (.agg #[.string ByteArray.empty, .string ByteArray.empty, .string ByteArray.empty]) 3 48 Tryz.underlying169 hi0 hz0 hz1 hz2 rfl (by decide) _ _ _ rfl (World.ownsRow.alloc HO1.out _) ⟨_, 0, none⟩ 1 1 (encP pp) rfl rfl (cell_list_at _ _ (encP pp) _ (by simp)) (oneCell_encP pp) (by decide) (by decide) (by have := HZ1.out; simp; omega) ?_; intro v2 w2 ho2 hg2 _ _; have HO2 := Lib.hid (show OwK encP 35 3 w2 w0.heap.size v2 [pp] from ho2); have HB2 := Lib.hid (below_only (HB1.out.alloc HB1.out.size (.cells #[.string pp.name, .string pp.typ, .string pp.data] 35)) hg2 (by have := HB1.out.size; simp at this ⊢; omega) (fun k hk => Nat.le_trans HBQ.out.size (OwK.lt HO1.out hk).1)); clear ho2 hg2))
           | (at_builtin; refine wpList_append_own_none rfl (.tmp 55) (.tmp 58) 169 rfl w0.heap.size 35 i0 3 Tryz.underlying169 hi0 _ _ _ rfl HO2.out rfl ?_))
         go_roundw
         case rel => exact ⟨ii + 1, by omega, by go_num, by rw [HSN'.out]; exact HO2.out.less HBQ.out.size, HB2.out⟩
         case measure => simp [intOf]; omega
      · obtain ⟨m, hm⟩ : ∃ m, m = l.length := ⟨_, rfl⟩
        rw [← hm] at hcap ⊢
        have HM := Lib.hid hm
        have HLM := Lib.hid (show m ≤ 1048576 from by rw [hm]; exact HLM0.out)
        have HFL0 := Lib.hid hfl
        have HGL0 := Lib.hid hg
        have HBL2 := Lib.hid hBl
        clear hm hfl hg
        go_wp2_with fail
        go_loopw [7] (fun z wq => ∃ k q : Nat, k ≤ m ∧ z = .int .i64 k ∧ Asd (∀ j x, j < k → l[j]? = some x → nm x < nm pp) ∧ wq = wr.drewN q) (fun z _ => m - (intOf z).toNat)
        case atStart => exact ⟨0, 0, Nat.zero_le _, rfl, fun j x hj => absurd hj (Nat.not_lt_zero _), rfl⟩
        case round =>
         obtain ⟨k, q, hkm, rfl, hA, rfl⟩ := hrel
         have HJ := Lib.hid (show ∀ j x, j < k → l[j]? = some x → nm x < nm pp from hA)
         have hk0 : (0 : Int) ≤ (k : Int) := by omega
         have hkc : (k : Int) ≤ (cap : Int) := by omega
         have hkm' : (k : Int) ≤ (m : Int) := by omega
         clear hA
         by_cases hlt2 : k < m
         · have hk1 : (k : Int) < (m : Int) := by omega
           obtain ⟨y, hy⟩ : ∃ y, l[k]? = some y := ⟨_, List.getElem?_eq_getElem (by rw [← HM.out]; exact hlt2)⟩
           have c0 := HFL0.out (k * 3 + 0) _ (flat_get encP_len l k y 0 _ hy rfl)
           rw [Nat.add_zero] at c0
           have HY := Lib.hid hy
           clear hy
           by_cases hxn : nm y < nm pp
           · have h5 : Op.bytesLess y.name.toList pp.name.toList = true := by rw [bytesLess_eq, decide_eq_true_iff, ByteArray.toList_eq, ByteArray.toList_eq]; exact hxn
             have hs9 : (k : Int) + 1 ≤ 9223372036854775807 := by have := HLM.out; omega
             have hwr : wrap64 ((k : Int) + 1) = (k : Int) + 1 := by unfold wrap64; omega
             go_wp2_with fail
             go_quiet (fail)
             go_wp2_with fail
             go_roundw
             case rel => exact ⟨k + 1, _, by omega, by go_num, fun j x hj hx => by
              rcases Nat.lt_or_ge j k with hjk | hjk
              · exact HJ.out j x hjk hx
              · obtain rfl : j = k := by omega
                rw [HY.out] at hx; injection hx with hx; rw [← hx]; exact hxn, rfl⟩
             case measure => simp [intOf]; omega
           · have h5 : Op.bytesLess y.name.toList pp.name.toList = false := by rw [bytesLess_eq, decide_eq_false_iff_not, ByteArray.toList_eq, ByteArray.toList_eq]; exact hxn
             have HIN := Lib.hid (ins_at k l (by rw [← HM.out]; omega) HJ.out (fun x hx => by rw [HY.out] at hx; injection hx with hx; rw [← hx]; exact hxn))
             go_wp2_with fail
             go_quiet (fail)
             have hbq : Below wr.heap.size wr ((wr.drewN q).drewN nq) := below_drewN (below_drewN (Below.refl _ _) _) _
             have HFL := Lib.hid (show ∀ (j : Nat) (u : Value), (l.flatMap encP)[j]? = some u → ((wr.drewN q).drewN nq).cell? ⟨g, j, none⟩ = some u from HFL0.out)
             have HGL := Lib.hid (show g < ((wr.drewN q).drewN nq).heap.size from HGL0.out)
             have hfl2 := HFL.out
             have hgl2 := HGL.out
             clear HFL HGL
             generalize (wr.drewN q).drewN nq = w0 at hbq hfl2 hgl2 ⊢
             have HFL := Lib.hid hfl2
             have HGL := Lib.hid hgl2
             have HBQ := Lib.hid (hbq.on HBL2.out HBL2.out.size)
             clear hfl2 hgl2 hbq r0 r1 r2 r3
             go_upto_region 9 with fail
             go_upto_region 10 with (at_builtin; (refine wpList_append_own_at _ rfl (.tmp 42) (.tmp 45) 169 rfl w0.heap.size 35 i0 (.agg #[.string ByteArray.empty, .string ByteArray.empty, .string ByteArray.empty]) 3 48 Tryz.underlying169 hi0 hz0 hz1 hz2 rfl (by decide) _ _ _ rfl (Qs.made HFL.out HGL.out).2.2.1 ⟨g, 0, none⟩ k _ ((l.take k).flatMap encP) rfl (by rw [flat_len encP_len, List.length_take, Nat.min_eq_left (by have := HM.out; omega)]) ((Qs.made HFL.out HGL.out).take k) (one_flat _) (by unfold maxLen; have := HLM.out; simp; omega) (by have := HLM.out; simp; omega) (by simp) ?_; intro v1 w1 ho1 hg1 _ _; have P1 := Lib.hid ((Qs.made HFL.out HGL.out).put hg1 (zs' := l.take k) (by rw [List.length_take, Nat.min_eq_left (by have := HM.out; omega)]; simpa using ho1)); clear ho1 hg1))
             have HB1 := Lib.hid (P1.out.2.2.2.on HBQ.out HBQ.out.size)
             obtain ⟨r1, r2, r3⟩ := HXC.out _ HB1.out
             go_wp2_with (first
              | (at_builtin; (refine wpList_append_own_at _ rfl (.tmp 47) (.tmp 53) 169 rfl w0.heap.size 35 i0 (.agg #[.string ByteArray.empty, .string ByteArray.empty, .string ByteArray.empty]) 3 48 Tryz.underlying169 hi0 hz0 hz1 hz2 rfl (by decide) _ _ _ rfl (P1.out.alloc _).2.2.1 ⟨_, 0, none⟩ 1 1 (encP pp) rfl rfl (cell_list_at _ _ (encP pp) _ rfl) (oneCell_encP pp) (by unfold maxLen; have := HLM.out; simp; omega) (by have := HLM.out; simp; omega) (P1.out.alloc _).2.2.2.size ?_; intro v2 w2 ho2 hg2 _ _; have P2 := Lib.hid ((P1.out.alloc _).put hg2 (zs' := l.take k ++ [pp]) (by rw [List.length_append, List.flatMap_append]; simpa using ho2)); clear ho2 hg2))
              | (at_builtin; (refine wpList_append_own_at _ rfl (.tmp 55) (.tmp 58) 169 rfl w0.heap.size 35 i0 (.agg #[.string ByteArray.empty, .string ByteArray.empty, .string ByteArray.empty]) 3 48 Tryz.underlying169 hi0 hz0 hz1 hz2 rfl (by decide) _ _ _ rfl P2.out.2.2.1 ⟨g, k * 3, none⟩ (m - k) (cap - k) ((l.drop k).flatMap encP) rfl (by rw [flat_len encP_len, List.length_drop, ← HM.out]) (P2.out.drop k) (one_flat _) (by unfold maxLen; have := HLM.out; simp; omega) (by have := HLM.out; simp; omega) P2.out.2.2.2.size ?_; intro v3 w3 ho3 hg3 _ _; have P3 := Lib.hid (P2.out.put hg3 (zs' := l.take k ++ [pp] ++ l.drop k) (by rw [List.length_append (bs := l.drop k), List.length_drop, ← HM.out, List.flatMap_append (ys := l.drop k)]; exact ho3)); clear ho3 hg3)))
             go_roundw
             case rel => exact ⟨ii + 1, by omega, by go_num, by rw [HSN'.out, HIN.out]; exact P3.out.2.2.1.less HBQ.out.size, P3.out.2.2.2.on HBQ.out HBQ.out.size⟩
             case measure => simp [intOf]; omega
         · obtain rfl : k = m := by omega
           have hk1 : ¬ (k : Int) < (k : Int) := by omega
           have HIN := Lib.hid (ins_at k l (by rw [← HM.out]; omega) HJ.out (fun x hx => by rw [HM.out] at hx; simp at hx))
           rcases Nat.lt_or_ge k cap with hcm | hcm
           · go_wp2_with fail
             go_quiet (fail)
             have hbq : Below wr.heap.size wr ((wr.drewN q).drewN nq) := below_drewN (below_drewN (Below.refl _ _) _) _
             have HFL := Lib.hid (show ∀ (j : Nat) (u : Value), (l.flatMap encP)[j]? = some u → ((wr.drewN q).drewN nq).cell? ⟨g, j, none⟩ = some u from HFL0.out)
             have HGL := Lib.hid (show g < ((wr.drewN q).drewN nq).heap.size from HGL0.out)
             have hfl2 := HFL.out
             have hgl2 := HGL.out
             clear HFL HGL
             generalize (wr.drewN q).drewN nq = w0 at hbq hfl2 hgl2 ⊢
             have HFL := Lib.hid hfl2
             have HGL := Lib.hid hgl2
             have HBQ := Lib.hid (hbq.on HBL2.out HBL2.out.size)
             clear hfl2 hgl2 hbq r0 r1 r2 r3
             go_upto_region 9 with fail
             go_upto_region 10 with (at_builtin; (refine wpList_append_own_at _ rfl (.tmp 42) (.tmp 45) 169 rfl w0.heap.size 35 i0 (.agg #[.string ByteArray.empty, .string ByteArray.empty, .string ByteArray.empty]) 3 48 Tryz.underlying169 hi0 hz0 hz1 hz2 rfl (by decide) _ _ _ rfl (Qs.made HFL.out HGL.out).2.2.1 ⟨g, 0, none⟩ k _ ((l.take k).flatMap encP) rfl (by rw [flat_len encP_len, List.length_take, Nat.min_eq_left (by have := HM.out; omega)]) ((Qs.made HFL.out HGL.out).take k) (one_flat _) (by unfold maxLen; have := HLM.out; simp; omega) (by have := HLM.out; simp; omega) (by simp) ?_; intro v1 w1 ho1 hg1 _ _; have P1 := Lib.hid ((Qs.made HFL.out HGL.out).put hg1 (zs' := l.take k) (by rw [List.length_take, Nat.min_eq_left (by have := HM.out; omega)]; simpa using ho1)); clear ho1 hg1))
             have HB1 := Lib.hid (P1.out.2.2.2.on HBQ.out HBQ.out.size)
             obtain ⟨r1, r2, r3⟩ := HXC.out _ HB1.out
             go_wp2_with (first
              | (at_builtin; (refine wpList_append_own_at _ rfl (.tmp 47) (.tmp 53) 169 rfl w0.heap.size 35 i0 (.agg #[.string ByteArray.empty, .string ByteArray.empty, .string ByteArray.empty]) 3 48 Tryz.underlying169 hi0 hz0 hz1 hz2 rfl (by decide) _ _ _ rfl (P1.out.alloc _).2.2.1 ⟨_, 0, none⟩ 1 1 (encP pp) rfl rfl (cell_list_at _ _ (encP pp) _ rfl) (oneCell_encP pp) (by unfold maxLen; have := HLM.out; simp; omega) (by have := HLM.out; simp; omega) (P1.out.alloc _).2.2.2.size ?_; intro v2 w2 ho2 hg2 _ _; have P2 := Lib.hid ((P1.out.alloc _).put hg2 (zs' := l.take k ++ [pp]) (by rw [List.length_append, List.flatMap_append]; simpa using ho2)); clear ho2 hg2))
              | (at_builtin; (refine wpList_append_own_at _ rfl (.tmp 55) (.tmp 58) 169 rfl w0.heap.size 35 i0 (.agg #[.string ByteArray.empty, .string ByteArray.empty, .string ByteArray.empty]) 3 48 Tryz.underlying169 hi0 hz0 hz1 hz2 rfl (by decide) _ _ _ rfl P2.out.2.2.1 ⟨g, _, none⟩ 0 _ ([]) rfl (by simp) (fun j u hu => by simp at hu) (fun u hu => by cases hu) (by unfold maxLen; have := HLM.out; simp; omega) (by have := HLM.out; simp; omega) P2.out.2.2.2.size ?_; intro v3 w3 ho3 hg3 _ _; have P3 := Lib.hid (P2.out.put hg3 (zs' := l.take k ++ [pp] ++ l.drop k) (by rw [List.drop_of_length_le (by rw [← HM.out]; omega), List.append_nil]; simpa using ho3)); clear ho3 hg3)))
             go_roundw
             case rel => exact ⟨ii + 1, by omega, by go_num, by rw [HSN'.out, HIN.out]; exact P3.out.2.2.1.less HBQ.out.size, P3.out.2.2.2.on HBQ.out HBQ.out.size⟩
             case measure => simp [intOf]; omega
           · obtain rfl : k = cap := by omega
             go_wp2_with fail
             go_quiet (fail)
             have hbq : Below wr.heap.size wr ((wr.drewN q).drewN nq) := below_drewN (below_drewN (Below.refl _ _) _) _
             have HFL := Lib.hid (show ∀ (j : Nat) (u : Value), (l.flatMap encP)[j]? = some u → ((wr.drewN q).drewN nq).cell? ⟨g, j, none⟩ = some u from HFL0.out)
             have HGL := Lib.hid (show g < ((wr.drewN q).drewN nq).heap.size from HGL0.out)
             have hfl2 := HFL.out
             have hgl2 := HGL.out
             clear HFL HGL
             generalize (wr.drewN q).drewN nq = w0 at hbq hfl2 hgl2 ⊢
             have HFL := Lib.hid hfl2
             have HGL := Lib.hid hgl2
             have HBQ := Lib.hid (hbq.on HBL2.out HBL2.out.size)
             clear hfl2 hgl2 hbq r0 r1 r2 r3
             go_upto_region 9 with fail
             go_upto_region 10 with (at_builtin; (refine wpList_append_own_at _ rfl (.tmp 42) (.tmp 45) 169 rfl w0.heap.size 35 i0 (.agg #[.string ByteArray.empty, .string ByteArray.empty, .string ByteArray.empty]) 3 48 Tryz.underlying169 hi0 hz0 hz1 hz2 rfl (by decide) _ _ _ rfl (Qs.made HFL.out HGL.out).2.2.1 ⟨g, 0, none⟩ k _ ((l.take k).flatMap encP) rfl (by rw [flat_len encP_len, List.length_take, Nat.min_eq_left (by have := HM.out; omega)]) ((Qs.made HFL.out HGL.out).take k) (one_flat _) (by unfold maxLen; have := HLM.out; simp; omega) (by have := HLM.out; simp; omega) (by simp) ?_; intro v1 w1 ho1 hg1 _ _; have P1 := Lib.hid ((Qs.made HFL.out HGL.out).put hg1 (zs' := l.take k) (by rw [List.length_take, Nat.min_eq_left (by have := HM.out; omega)]; simpa using ho1)); clear ho1 hg1))
             have HB1 := Lib.hid (P1.out.2.2.2.on HBQ.out HBQ.out.size)
             obtain ⟨r1, r2, r3⟩ := HXC.out _ HB1.out
             go_wp2_with (first
              | (at_builtin; (refine wpList_append_own_at _ rfl (.tmp 47) (.tmp 53) 169 rfl w0.heap.size 35 i0 (.agg #[.string ByteArray.empty, .string ByteArray.empty, .string ByteArray.empty]) 3 48 Tryz.underlying169 hi0 hz0 hz1 hz2 rfl (by decide) _ _ _ rfl (P1.out.alloc _).2.2.1 ⟨_, 0, none⟩ 1 1 (encP pp) rfl rfl (cell_list_at _ _ (encP pp) _ rfl) (oneCell_encP pp) (by unfold maxLen; have := HLM.out; simp; omega) (by have := HLM.out; simp; omega) (P1.out.alloc _).2.2.2.size ?_; intro v2 w2 ho2 hg2 _ _; have P2 := Lib.hid ((P1.out.alloc _).put hg2 (zs' := l.take k ++ [pp]) (by rw [List.length_append, List.flatMap_append]; simpa using ho2)); clear ho2 hg2))
              | (at_builtin; (refine wpList_append_own_at _ rfl (.tmp 55) (.tmp 58) 169 rfl w0.heap.size 35 i0 (.agg #[.string ByteArray.empty, .string ByteArray.empty, .string ByteArray.empty]) 3 48 Tryz.underlying169 hi0 hz0 hz1 hz2 rfl (by decide) _ _ _ rfl P2.out.2.2.1 ⟨g, _, none⟩ 0 _ ([]) rfl (by simp) (fun j u hu => by simp at hu) (fun u hu => by cases hu) (by unfold maxLen; have := HLM.out; simp; omega) (by have := HLM.out; simp; omega) P2.out.2.2.2.size ?_; intro v3 w3 ho3 hg3 _ _; have P3 := Lib.hid (P2.out.put hg3 (zs' := l.take k ++ [pp] ++ l.drop k) (by rw [List.drop_of_length_le (by rw [← HM.out]; omega), List.append_nil]; simpa using ho3)); clear ho3 hg3)))
             go_roundw
             case rel => exact ⟨ii + 1, by omega, by go_num, by rw [HSN'.out, HIN.out]; exact P3.out.2.2.1.less HBQ.out.size, P3.out.2.2.2.on HBQ.out HBQ.out.size⟩
             case measure => simp [intOf]; omega
    · have h1 : (xw == i) = false := by simpa using hvi
      have h2 : (xw != i) = true := by simpa using hvi
      rw [if_neg hvi] at hsn
      have HSN := Lib.hid hsn
      clear hvi hsn
      go_wp2_with fail
      go_roundw
      case rel => exact ⟨ii + 1, by omega, by go_num, by rw [HSN.out]; exact HO.out, HBL.out⟩
      case measure => simp [intOf]; omega
  · obtain rfl : ii = n := by omega
    clear hO hBl
    go_wp2_with fail
    go_ret
    exact ⟨_, rfl, by have hh := HO.out; rw [HN.out, List.take_length] at hh; exact hh, HBL.out⟩
end Go.Proofs.YtnhchpiafchdgaaGreat.Pp
end
