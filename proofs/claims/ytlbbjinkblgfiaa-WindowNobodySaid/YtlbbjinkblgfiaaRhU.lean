/- Slices of ints that a call made itself. -/
import Derived.Test.YtlbbjinkblgfiaaRhD
namespace Go.Proofs.Ytlbbjinkblgfiaa
open Go.RowKit
def encI (z : Int) : List Value := [.int .i64 z]
theorem encI_len (z : Int) : (encI z).length = 1 := rfl
theorem flatI (zs : List Int) : zs.flatMap encI = zs.map (Value.int .i64) := by
  induction zs with
  | nil => rfl
  | cons z t ih => rw [List.flatMap_cons, ih]; rfl
theorem intInfo : (Try.prog.info? 3).map (fun i => (i.zero, i.size, i.bytes)) = some (some (.int .i64 0), 1, 8) := by kernel_rfl
theorem cell_list (w : World) (t : TypeId) (l : List Value) : ∀ (j : Nat) (u : Value), l[j]? = some u → (w.alloc (.cells l.toArray t)).cell? ((⟨w.heap.size, 0, none⟩ : Addr).add j) = some u := by
  intro j u hu
  have h := (Blk.new w t l.toArray).cell j
  rw [Addr.add_lit, Nat.zero_add, h]
  simpa using hu
theorem oneCell_ints (zs : List Int) : ∀ u ∈ zs.map (Value.int .i64), u.oneCell' = true := by
  intro u hu
  obtain ⟨z, _, rfl⟩ := List.mem_map.1 hu
  rfl
theorem cell_list_at (w : World) (t : TypeId) (l : List Value) (k : Nat) (hk : w.heap.size = k) : ∀ (j : Nat) (u : Value), l[j]? = some u → (w.alloc (.cells l.toArray t)).cell? ((⟨k, 0, none⟩ : Addr).add j) = some u := by subst hk; exact cell_list w t l
end Go.Proofs.Ytlbbjinkblgfiaa
