import Derived.Test.YtedhgdjlcddchaaRaG
import Derived.WalkSpells
namespace Go.Proofs.Ytedhgdjlcddchaa
open Go.RowKit
/-- A slice of colours of the call's own (nil, if there is none). -/
def Own (w : World) (B : Nat) (v : Value) (zs : List Int) : Prop :=
  (zs = [] ∧ v = .slice none 0 0) ∨ ∃ (g cap : Nat) (cur : Array Value), v = .slice (some ⟨g, 0, none⟩) zs.length cap ∧ B ≤ g ∧ Blk w g 50 cur ∧ ∀ (j : Nat) (u : Int), zs[j]? = some u → cur[j]? = some (Value.int .u32 u)
set_option maxHeartbeats 2000000 in
set_option maxRecDepth 100000 in
theorem clone_c (b n c : Nat) (zs : List Int) (w : World) (hn : zs.length = n) (hb : Blk w b 50 (colA zs)) (hbig : n ≤ 1048576) :
    Calls Try.prog 68 #[.slice (some ⟨b, 0, none⟩) n c] w fun e w' => ∃ v, e = .returned v ∧ Own w' w.heap.size v zs ∧ Below w.heap.size w w' := by
  have hbl := hb.lt
  obtain ⟨i0, hi, hz0, hz1, hz2⟩ := info_parts u32_info
  have q22 : ∀ (w : World) (a : Option Addr) (n c n' c' : Nat), (binOp .eql 54 (.slice a n c) (.slice none n' c')).run Try.prog w = .ok (.bool a.isNone) w := fun w a n c n' c' => Lib.run_eql_slice_nil w _ _ a n c n' c' Try.underlying54
  have HC1 := Lib.hid (show (zs.map (Value.int .u32)).length = n * 1 by simp [hn])
  have HC2 := Lib.hid (show ∀ j u, (zs.map (Value.int .u32))[j]? = some u → (w.alloc (.cells #[] 50)).cell? ((⟨b, 0, none⟩ : Addr).add j) = some u from by
    intro j u hj
    rw [Addr.add_lit, Nat.zero_add]
    refine (hb.alloc _).at_ ?_
    unfold colA
    rw [List.getElem?_toArray]
    exact hj)
  have HC3 := Lib.hid (show ∀ u ∈ zs.map (Value.int .u32), u.oneCell' = true from fun u hu => by obtain ⟨x, _, rfl⟩ := List.mem_map.1 hu; rfl)
  clear hb
  go_enter Try.func68, Try.ntmps68
  go_wp2_with (at_builtin; refine wpList_append_own _ rfl _ _ 54 rfl w.heap.size 50 i0 (.int .u32 0) 1 4 Try.underlying54 hi hz0 hz1 hz2 rfl (by decide) _ _ _ rfl (World.ownsRow_made w #[] 0 (Nat.le_refl _) (Nat.zero_le _) rfl) ⟨b, 0, none⟩ n c (zs.map (Value.int .u32)) rfl HC1.out HC2.out HC3.out ?qc4 ?qc5 ?qc6 ?_)
  case qc4 => unfold maxLen; omega
  case qc5 => omega
  case qc6 => simp
  intro v' w1 hown hgrow hnil
  go_wp2
  go_ret
  have hB := ((Below.refl _ w).alloc (Nat.le_refl _) (.cells #[] 50)).grown hgrow (by simp) (by intro k hk; simp [Value.ownBlock] at hk; omega)
  refine ⟨v', rfl, ?_, hB⟩
  rcases hown.2 with ⟨rfl, hx⟩ | ⟨g, cap, cur, hv, hge, hh, hc, _, _, hp⟩
  · exact absurd rfl hnil
  · refine Or.inr ⟨g, cap, cur, by rw [hv, hn], hge, hh, fun j u hu => ?_⟩
    have hj : j < n := hn ▸ (List.getElem?_eq_some_iff.1 hu).1
    have h2 : (cur.toList.take (n * 1))[j]? = some (.int .u32 u) := by rw [hp, List.getElem?_map, hu]; rfl
    rw [List.getElem?_take_of_lt (by omega)] at h2
    rw [← h2]; simp
theorem clone_nil (n c : Nat) (w : World) : Calls Try.prog 68 #[.slice none n c] w fun e w' => e = .returned (.slice none 0 0) ∧ w = w' := by
  have q22 : ∀ (w : World) (a : Option Addr) (n c n' c' : Nat), (binOp .eql 54 (.slice a n c) (.slice none n' c')).run Try.prog w = .ok (.bool a.isNone) w := fun w a n c n' c' => Lib.run_eql_slice_nil w _ _ a n c n' c' Try.underlying54
  go_enter Try.func68, Try.ntmps68
  go_wp2
  go_ret
  exact ⟨rfl, rfl⟩
end Go.Proofs.Ytedhgdjlcddchaa
