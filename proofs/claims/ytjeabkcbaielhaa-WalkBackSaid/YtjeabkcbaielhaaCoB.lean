/- Containers in memory: a row of them as it reads, at whatever blocks. -/
import Derived.Test.YtjeabkcbaielhaaCoA
import Derived.Test.YtjeabkcbaielhaaMem
import Derived.LoopTactic
import Derived.Deep.QuietTactic
import Derived.BigQuiet
import Derived.Deep.DeepCutAuto
namespace Go.Proofs.Ytjeabkcbaielhaa.Co
open Go.RowKit
/-- A part of a relation that the walk is not to open. -/
def Asd (p : Prop) : Prop := p
def I64 (i : Int) : Prop := -9223372036854775808 ≤ i ∧ i ≤ 9223372036854775807
def D.wide (d : D) : Prop := I64 d.k ∧ I64 d.w ∧ I64 d.c ∧ I64 d.s
/-- A container's cells; sv: the slice of its kids. -/
def encC (d : D) (sv : Value) : List Value := [.int .i64 d.k, .int .i64 d.w, .int .i64 d.c, .int .i64 d.s, sv]
abbrev conV (d : D) (sv : Value) : Value := .agg #[.int .i64 d.k, .int .i64 d.w, .int .i64 d.c, .int .i64 d.s, sv]
/-- A slice value that reads as these containers, in blocks of which Z holds. -/
inductive KV (w : World) (Z : Nat → Prop) : List Con → Value → Prop where
  | mk (ks : List Con) (p : Option Addr) (cap : Nat) (sv : Nat → Value) (hl : ks.length ≤ 1152921504606846976) (hcp : ks.length ≤ cap)
      (hc : ∀ j x, ks[j]? = some x → ∃ b o, p = some ⟨b, o, none⟩ ∧ Z b ∧ b < w.heap.size ∧ x.a.wide ∧ ∀ i u, (encC x.a (sv j))[i]? = some u → w.cell? ⟨b, o + j * 5 + i, none⟩ = some u)
      (hk : ∀ j x, ks[j]? = some x → KV w Z x.ks (sv j)) : KV w Z ks (.slice p ks.length cap)
theorem cell_same {w w' : World} {b : Nat} (h : w'.heap[b]? = w.heap[b]?) (o : Nat) : w'.cell? ⟨b, o, none⟩ = w.cell? ⟨b, o, none⟩ := by simp only [World.cell?]; rw [h]
variable {w w' : World} {Z Z' : Nat → Prop} {ks : List Con} {v : Value}
theorem KV.out (h : KV w Z ks v) : ∃ p cap, ∃ sv : Nat → Value, v = .slice p ks.length cap ∧ ks.length ≤ 1152921504606846976 ∧
    (∀ j x, ks[j]? = some x → ∃ b o, p = some ⟨b, o, none⟩ ∧ Z b ∧ b < w.heap.size ∧ x.a.wide ∧ ∀ i u, (encC x.a (sv j))[i]? = some u → w.cell? ⟨b, o + j * 5 + i, none⟩ = some u) ∧
    (∀ j x, ks[j]? = some x → KV w Z x.ks (sv j)) := by
  cases h with
  | mk _ p cap sv hl hcp hc hk => exact ⟨p, cap, sv, rfl, hl, hc, hk⟩
theorem KV.same (h : KV w Z ks v) (hz : ∀ b, Z b → Z' b) (hs : w.heap.size ≤ w'.heap.size) (hb : ∀ b, Z b → b < w.heap.size → w'.heap[b]? = w.heap[b]?) : KV w' Z' ks v := by
  induction h with
  | mk ks p cap sv hl hcp hc hk ih =>
    refine .mk ks p cap sv hl hcp (fun j x hx => ?_) ih
    obtain ⟨b, o, h1, h2, h3, h4, h5⟩ := hc j x hx
    exact ⟨b, o, h1, hz b h2, Nat.lt_of_lt_of_le h3 hs, h4, fun i u hu => (cell_same (hb b h2 h3) _).trans (h5 i u hu)⟩
/-- The room of a slice. -/
theorem KV.cap {p : Option Addr} {n c : Nat} (h : KV w Z ks (.slice p n c)) : n = ks.length ∧ ks.length ≤ c := by
  cases h with
  | mk _ _ _ sv hl hcp hc hk => exact ⟨rfl, hcp⟩
theorem KV.next (h : KV w Z ks v) (hb : Below w.heap.size w w') : KV w' Z ks v := h.same (fun _ h => h) hb.size fun b _ hl => hb.block b hl
theorem KV.drew (h : KV w Z ks v) : KV w.drew Z ks v := h.same (fun _ h => h) (Nat.le_refl _) fun _ _ _ => rfl
theorem KV.drewN (h : KV w Z ks v) (n : Nat) : KV (w.drewN n) Z ks v := h.same (fun _ h => h) (Nat.le_refl _) fun _ _ _ => rfl
theorem KV.alloc (h : KV w Z ks v) (o : Obj) : KV (w.alloc o) Z ks v := h.next ((Below.refl _ _).alloc (Nat.le_refl _) o)
/-- A kid, as it lies. -/
theorem KV.kid {p : Option Addr} {cap n : Nat} (h : KV w Z ks (.slice p n cap)) {j : Nat} {x : Con} (hx : ks[j]? = some x) :
    n = ks.length ∧ ∃ b o sv, p = some ⟨b, o, none⟩ ∧ Z b ∧ b < w.heap.size ∧ x.a.wide ∧ KV w Z x.ks sv ∧
      (w.cell? ⟨b, o + j * 5, none⟩ = some (.int .i64 x.a.k) ∧ w.cell? ⟨b, o + j * 5 + 1, none⟩ = some (.int .i64 x.a.w) ∧ w.cell? ⟨b, o + j * 5 + 2, none⟩ = some (.int .i64 x.a.c) ∧ w.cell? ⟨b, o + j * 5 + 3, none⟩ = some (.int .i64 x.a.s) ∧ w.cell? ⟨b, o + j * 5 + 4, none⟩ = some sv) := by
  obtain ⟨q, c, sv, e, _, h1, h2⟩ := h.out
  injection e with e1 e2 e3
  subst e1 e2 e3
  obtain ⟨b, o, h3, h4, h5, h6, h7⟩ := h1 j x hx
  exact ⟨rfl, b, o, sv j, h3, h4, h5, h6, h2 j x hx, h7 0 _ rfl, h7 1 _ rfl, h7 2 _ rfl, h7 3 _ rfl, h7 4 _ rfl⟩
theorem KV.slice (h : KV w Z ks v) : ∃ p cap, v = .slice p ks.length cap ∧ ks.length ≤ 1152921504606846976 := by
  obtain ⟨p, cap, _, e, hl, _⟩ := h.out
  exact ⟨p, cap, e, hl⟩
theorem cells5 {b o : Nat} {u0 u1 u2 u3 u4 : Value} (hb : Below w.heap.size w w') (hl : b < w.heap.size) (h : w.cell? ⟨b, o, none⟩ = some u0 ∧ w.cell? ⟨b, o + 1, none⟩ = some u1 ∧ w.cell? ⟨b, o + 2, none⟩ = some u2 ∧ w.cell? ⟨b, o + 3, none⟩ = some u3 ∧ w.cell? ⟨b, o + 4, none⟩ = some u4) :
    w'.cell? ⟨b, o, none⟩ = some u0 ∧ w'.cell? ⟨b, o + 1, none⟩ = some u1 ∧ w'.cell? ⟨b, o + 2, none⟩ = some u2 ∧ w'.cell? ⟨b, o + 3, none⟩ = some u3 ∧ w'.cell? ⟨b, o + 4, none⟩ = some u4 := by
  have e := fun i => cell_same (hb.block b hl) i
  rw [e, e, e, e, e]; exact h
theorem KV.nil (w : World) (Z : Nat → Prop) (p : Option Addr) (cap : Nat) : KV w Z [] (.slice p 0 cap) := .mk [] p cap (fun _ => undef) (by simp) (by simp) (fun j x h => by simp at h) (fun j x h => by simp at h)
theorem KV.all (h : KV w Z ks v) : KV w (fun b => b < w.heap.size) ks v := by
  induction h with
  | mk ks p cap sv hl hcp hc hk ih =>
    refine .mk ks p cap sv hl hcp (fun j x hx => ?_) ih
    obtain ⟨b, o, h1, h2, h3, h4, h5⟩ := hc j x hx
    exact ⟨b, o, h1, h3, h3, h4, h5⟩
end Go.Proofs.Ytjeabkcbaielhaa.Co
