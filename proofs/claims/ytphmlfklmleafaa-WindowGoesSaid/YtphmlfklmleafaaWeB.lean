/- What the laws ask of the code's tree, out of what they keep. -/
import Derived.Test.YtphmlfklmleafaaWeA
import Derived.Test.YtphmlfklmleafaaJbe
namespace Go.Proofs.Ytphmlfklmleafaa
open Go.RowKit Go.Shelf Go.Maps
section
variable {R : RT} {L : List Win} {k : Nat} {w0 w : World} {t rb : Nat}
def seenAt (R : RT) (L : List Win) (px py : Int) : Int := if reachB R.w R.h px py = true then seenB (ndL R L) (L.length + 1) 0 px py else 0
theorem under_both (S : Sane R L k) (px py : Int) :
    (∀ (W : World) (t : Nat) (l : Lay), TB W t l R L → Calls Try.prog 15 #[treeP t, .agg #[.int .i64 px, .int .i64 py]] W fun e w' => e = .returned (.tuple #[.int .i64 (seenAt R L px py), .bool (reachB R.w R.h px py)]) ∧ Below W.heap.size W w') ∧
    ∀ (W : World) (sv : Value), RW W sv L → Calls Try.prog 16 #[refV R sv, .agg #[.int .i64 px, .int .i64 py]] W fun e w' => e = .returned (.tuple #[.int .i64 (seenAt R L px py), .bool (reachB R.w R.h px py)]) ∧ Below W.heap.size W w' := by
  have hL : L.length ≤ 1048576 := by have := S.big; omega
  have h0 : (if reachB R.w R.h px py = true then (.tuple #[.int .i64 (seenB (ndL R L) (L.length + 1) 0 px py), .bool true] : Value) else .tuple #[.int .i64 0, .bool false]) = .tuple #[.int .i64 (seenAt R L px py), .bool (reachB R.w R.h px py)] := by
    unfold seenAt
    cases reachB R.w R.h px py <;> rfl
  refine ⟨fun W t l hT => (under_c hT S.wide S.kids nd_root S.tallRoot).mono fun e w' h => ⟨?_, h.2⟩, fun W sv hR => (runder_c S.uniq hL (L.length + 1) px py sv W hR S.tallRoot).mono fun e w' h => ⟨?_, h.2⟩⟩
  · have h1 := h.1
    rw [show (rootW R).w = R.w from rfl, show (rootW R).h = R.h from rfl, h0] at h1
    exact h1
  · have h1 := h.1
    unfold rUnder at h1
    rw [h0] at h1
    exact h1
variable {i : Int} {v : Win} {ok : Bool} {px py : Int} {th : Bool} {ks : List Int} {vb : Bool}
/-- The document's list in its block. -/
theorem Bo.list (hB : Bo w0 t rb R L w) : ∃ p c, (w.cell? ⟨rb, 0, none⟩ = some (.int .i64 R.x) ∧ w.cell? ⟨rb, 1, none⟩ = some (.int .i64 R.y) ∧ w.cell? ⟨rb, 2, none⟩ = some (.int .i64 R.w) ∧ w.cell? ⟨rb, 3, none⟩ = some (.int .i64 R.h) ∧ w.cell? ⟨rb, 4, none⟩ = some (.int .i64 R.last) ∧ w.cell? ⟨rb, 5, none⟩ = some (.slice p L.length c)) ∧ RO w (.slice p L.length c) L := by
  obtain ⟨l, sv, h1, h2, h3, -⟩ := hB
  obtain ⟨p, c, rfl⟩ := OwK.slice h3
  exact ⟨p, c, h2.at6.1, h3⟩
/-- What is kept of the code's tree alone. -/
def Co (w0 : World) (t : Nat) (R : RT) (L : List Win) (w : World) : Prop := ∃ l, TB w t l R L ∧ Below w0.heap.size w0 w ∧ ∀ b, l.foot t b → w0.heap.size ≤ b
theorem Bo.co (hB : Bo w0 t rb R L w) : Co w0 t R L w := by
  obtain ⟨l, sv, h1, h2, h3, h4, h5, h6⟩ := hB
  exact ⟨l, h1, h4, h6⟩
theorem Co.next (h : Co w0 t R L w) {w' : World} (hb : Below w.heap.size w w') : Co w0 t R L w' := by
  obtain ⟨l, h1, h2, h3⟩ := h
  exact ⟨l, h1.next hb, hb.on h2 h2.size, h3⟩
theorem Co.below (h : Co w0 t R L w) : Below w0.heap.size w0 w := by
  obtain ⟨l, h1, h2, h3⟩ := h
  exact h2
theorem Co.len (S : Sane R L k) (hB : Co w0 t R L w) : Calls Try.prog 13 #[treeP t] w fun e w' => e = .returned (.int .i64 (L.length : Int)) ∧ w = w' := by
  obtain ⟨l, h, -⟩ := hB
  obtain ⟨r, hr⟩ := root_b h
  refine (len_c h hr (by have := S.big; omega)).mono fun e w' hh => ⟨?_, hh.2⟩
  rw [hh.1, show ((L.length + 1 : Nat) : Int) - 1 = (L.length : Int) by omega]
theorem Co.under (S : Sane R L k) (hB : Co w0 t R L w) (px py : Int) : Calls Try.prog 15 #[treeP t, .agg #[.int .i64 px, .int .i64 py]] w fun e w' => e = .returned (.tuple #[.int .i64 (seenAt R L px py), .bool (reachB R.w R.h px py)]) ∧ Below w.heap.size w w' := by
  obtain ⟨l, h, -⟩ := hB
  exact (under_both S px py).1 _ _ _ h
theorem Co.get (hB : Co w0 t R L w) (hS : Shown R L i v ok px py th ks vb) : Calls Try.prog 19 #[treeP t, .int .i64 i] w fun e w' => e = .returned (.tuple #[winV v, .bool ok]) ∧ Below w.heap.size w w' := by
  obtain ⟨l, h, -⟩ := hB
  exact hS.cget _ _ _ h
theorem Co.abs (hB : Co w0 t R L w) (hS : Shown R L i v ok px py th ks vb) : Calls Try.prog 22 #[treeP t, .int .i64 i] w fun e w' => e = .returned (.tuple #[.agg #[.int .i64 px, .int .i64 py], .bool th]) ∧ Below w.heap.size w w' := by
  obtain ⟨l, h, -⟩ := hB
  exact hS.cabs _ _ _ h
theorem Co.kids (hB : Co w0 t R L w) (hS : Shown R L i v ok px py th ks vb) : Calls Try.prog 18 #[treeP t, .int .i64 i] w fun e w' => ∃ v', e = .returned v' ∧ RdI w' v' ks ∧ Below w.heap.size w w' := by
  obtain ⟨l, h, -⟩ := hB
  exact hS.ckids _ _ _ h
theorem Co.view (hB : Co w0 t R L w) (hS : Shown R L i v ok px py th ks vb) : Calls Try.prog 24 #[treeP t, .int .i64 i] w fun e w' => e = .returned (.bool vb) ∧ Below w.heap.size w w' := by
  obtain ⟨l, h, -⟩ := hB
  exact hS.cview _ _ _ h
end
end Go.Proofs.Ytphmlfklmleafaa
