/- A row of struts opened, with how long it may be. -/
import Derived.Test.YteaeccmlibmmmaaArV
import Derived.Test.YteaeccmlibmmmaaArO
import Derived.SizedLaws
namespace Go.Proofs.Yteaeccmlibmmmaa.Ar
open Go.RowKit Go.WideShapes Go.ChangeShapes Go.ChangeAt Go.Deep
section
variable {H : Type} {enc : TypeId × Value → H} {w : World}
set_option maxRecDepth 100000 in
theorem strutsz_of {b0 : Nat} {v : Value} {d : DataW H} {q : List MemPlace} (hv : Value.okWide Try.prog w .any b0 32 v) (h : DataW.Trod enc Try.prog w 0 (fun _ => true) true 32 v d q) :
    ∃ l : List Str, RdK encS 5 w v l ∧ (l = [] ∨ ∃ el sp, d = .slice el sp ∧ el.length = l.length) ∧ ∀ n c, v = .slice none n c → c = 0 := by
  obtain ⟨l, hR, _, _⟩ := struts_of hv h
  refine ⟨l, hR, ?_⟩
  obtain ⟨p, c, rfl, -⟩ := hR
  obtain ⟨fuel, hf⟩ := h
  rcases open_slice Try.underlying32 hf with ⟨hcs, _⟩ | ⟨a, len', cap', m, n, D, Pl, hcs, _, hl, hm, hmm, hd, hi⟩
  · simp only [Value.cells, List.cons.injEq, Value.slice.injEq, and_true] at hcs
    obtain ⟨rfl, h0, rfl⟩ := hcs
    refine ⟨.inl (List.eq_nil_of_length_eq_zero h0), ?_⟩
    rintro n c ⟨⟩
    rfl
  · simp only [Value.cells, List.cons.injEq, Value.slice.injEq, and_true] at hcs
    obtain ⟨rfl, rfl, rfl⟩ := hcs
    simp only [if_true] at hmm
    subst hmm
    refine ⟨.inr ⟨_, _, (Prod.mk.inj hd).1, by simp⟩, ?_⟩
    rintro n c ⟨⟩
theorem bytes_strut : Try.prog.bytesOf 46 = 48 := by kernel_rfl
theorem struts_small {ts : List TypeId} {ds : List (DataW H)} {j : Nat} {d : DataW H} {l : List Str} (hsz : (DataW.weightsEach Try.prog ts ds).all (· ≤ reachBytes) = true) (ht : ts[j]? = some 32) (hd : ds[j]? = some d)
    (h : l = [] ∨ ∃ el sp, d = .slice el sp ∧ el.length = l.length) : (l.length + 1) * 48 ≤ 140737488355328 := by
  rcases h with rfl | ⟨el, sp, rfl, hl⟩
  · simp
  · have h1 := sized_slice hsz ht hd Try.underlying32
    rw [bytes_strut] at h1
    have h2 : reachBytes = 140737488351232 := rfl
    rw [hl] at h1
    omega
end
theorem inside_w9 (o : Out) (v : Value) (l : List Str) (s : Str) (w : World) (_ : o.n.size ≤ maxLen) (hR : RdK encS 5 w v l) (hln : (l.length + 1) * 48 ≤ 140737488355328) (hnil : ∀ n c, v = .slice none n c → c = 0) (_ : s.n.size ≤ maxLen) :
    Calls Try.prog 6 #[outV o, v, strV s] w fun e w' => e = .returned (.bool true) ∧ Below w.heap.size w w' := inside_w o v l s w hR hln hnil
end Go.Proofs.Yteaeccmlibmmmaa.Ar
