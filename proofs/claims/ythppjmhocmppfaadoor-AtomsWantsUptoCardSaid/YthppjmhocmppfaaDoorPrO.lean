/- Arguments opened for the rows of the second form: what the bound gives of a text and of a row of numbers. -/
import Derived.Test.YthppjmhocmppfaaDoorRows
import Derived.Test.YthppjmhocmppfaaDoorPrW
import Derived.Test.YthppjmhocmppfaaDoorOpen
namespace Go.Proofs.YthppjmhocmppfaaDoor
open Go.RowKit Go.WideShapes Go.ChangeShapes Go.ChangeAt
section
variable {H : Type}
theorem bulk_mem {d : DataW H} : ∀ {ds : List (DataW H)}, d ∈ ds → Rows.uptoBulk d ≤ Rows.uptoBulkAll ds
  | [], h => by cases h
  | x :: r, h => by
    simp only [Rows.uptoBulkAll]
    rcases List.mem_cons.1 h with rfl | h
    · omega
    · have := bulk_mem h; omega
theorem bulk_pos (d : DataW H) : 1 ≤ Rows.uptoBulk d := by
  cases d with
  | lit l => cases l <;> simp [Rows.uptoBulk]
  | _ => simp [Rows.uptoBulk]
theorem bulk_len : ∀ ds : List (DataW H), ds.length ≤ Rows.uptoBulkAll ds
  | [] => Nat.zero_le _
  | d :: r => by
    have h1 := bulk_len r
    have h2 := bulk_pos d
    simp only [Rows.uptoBulkAll, List.length_cons]; omega
theorem small_of {ds : List (DataW H)} (hk : Rows.uptoSmall H ds = true) {d : DataW H} (hd : d ∈ ds) : Rows.uptoBulk d ≤ 1048576 := Nat.le_trans (bulk_mem hd) (of_decide_eq_true hk)
theorem small_text {bytes : List UInt8} (h : Rows.uptoBulk (DataW.lit (H := H) (.string bytes)) ≤ 1048576) : bytes.length ≤ 1048576 := by
  simp only [Rows.uptoBulk] at h
  omega
variable {enc : TypeId × Value → H} {P : Program}
/-- A row of numbers, read; its length by its bulk. -/
theorem nums_of {t e : TypeId} {k : IntKind} {W : World} {b0 : Nat} {v : Value} {d : DataW H} {p : List MemPlace} (ht : P.underlying t = some (.slice e)) (he : P.underlying e = some (.int k)) (hc : P.cellsOf e = 1)
    (hv : Value.okWide P W .any b0 t v) (h : DataW.Trod enc P W 0 (fun _ => true) true t v d p) : ∃ zs : List Int, Rd W v (zs.map (Value.int k)) ∧ zs.length ≤ Rows.uptoBulk d ∧ ∀ n ∈ zs, (Lit.int k n).wf = true := by
  obtain ⟨a0, len, cap, rfl⟩ := okWide_slice ht hv
  obtain ⟨fuel, hf⟩ := h
  rcases open_ints ht he hc hf with ⟨hcs, _⟩ | ⟨a, len', cap', zs, hcs, _, hl, hm, hz, hx, hcell, hwf⟩
  · simp only [Value.cells, List.cons.injEq, Value.slice.injEq, and_true] at hcs
    obtain ⟨rfl, rfl, rfl⟩ := hcs
    exact ⟨[], Rd.nil W, Nat.zero_le _, fun n hn => by cases hn⟩
  · simp only [Value.cells, List.cons.injEq, Value.slice.injEq, and_true] at hcs
    obtain ⟨rfl, rfl, rfl⟩ := hcs
    simp only [if_true] at hz
    have hlen : (zs.take len).length = len := by simp; omega
    have hd : d = .slice (lits k (zs.take len)) (lits k (zs.drop len)) := (Prod.mk.inj hx).1
    refine ⟨zs.take len, ⟨some a, cap, by rw [List.length_map, hlen], fun j u hu => ?_⟩, ?_, fun n hn => hwf n (List.mem_of_mem_take hn)⟩
    · have hj : j < len := by
        have h1 := (List.getElem?_eq_some_iff.1 hu).1
        simp only [List.length_map] at h1
        omega
      obtain ⟨b, off, spot⟩ := a
      have h1 := hcell j (by omega)
      have h00 := hcell 0 (by omega)
      have hspot : spot = none := by simpa [Addr.add] using World.cell?_spot h00
      subst hspot
      rw [show ((⟨b, off, none⟩ : Addr).add j) = ⟨b, off + j, none⟩ by unfold Addr.add; split <;> simp_all] at h1
      refine ⟨b, off, rfl, by simpa using block_of_cell h1, ?_⟩
      rw [h1, ← hu, List.getElem?_map, List.getElem?_take_of_lt hj, List.getElem?_eq_getElem (by omega)]
      simp [List.getD, List.getElem?_eq_getElem (show j < zs.length by omega)]
    · rw [hd]
      simp only [Rows.uptoBulk]
      have h1 := bulk_len (lits (H := H) k (zs.take len))
      have h2 : (lits (H := H) k (zs.take len)).length = len := by unfold lits; simp; omega
      omega
end
end Go.Proofs.YthppjmhocmppfaaDoor
