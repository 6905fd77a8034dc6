/- What no call made: nil, or a table without a map. -/
import Derived.Test.YtfflgkbemfichaaDoorPrH
namespace Go.Proofs.YtfflgkbemfichaaDoor
open Go.RowKit Go.Maps
def IsNo (w : World) (v : Value) : Prop := v = .pointer none ∨ ∃ t, v = tabP t ∧ Blk w t 65 #[.map none]
section
variable {w w' : World} {v : Value}
theorem IsNo.next (h : IsNo w v) (hb : Below w.heap.size w w') : IsNo w' v := by
  rcases h with rfl | ⟨t, rfl, ht⟩
  · exact .inl rfl
  · exact .inr ⟨t, rfl, ht.next hb⟩
theorem of_no (h : IsNo w v) {i : Int} (hi : I64 i) : Calls Tryd.prog 33 #[v, .int .i64 i] w fun e w' => e = .returned (.map none) ∧ w = w' := by
  rcases h with rfl | ⟨t, rfl, ht⟩
  · clear hi
    go_enter Tryd.func33, Tryd.ntmps33
    go_wp2_with fail
    go_ret
    exact ⟨rfl, rfl⟩
  · obtain ⟨c0, -⟩ := ht.c1
    have e0 := look_nilI w hi
    clear ht hi
    go_enter Tryd.func33, Tryd.ntmps33
    go_wp2_with fail
    go_ret
    exact ⟨rfl, rfl⟩
theorem drop_no (h : IsNo w v) {i : Int} (hi : I64 i) : Calls Tryd.prog 15 #[v, .int .i64 i] w fun e w' => e = .returned (.tuple #[]) ∧ w = w' := by
  rcases h with rfl | ⟨t, rfl, ht⟩
  · clear hi
    go_enter Tryd.func15, Tryd.ntmps15
    go_wp2_with fail
    go_end0
    exact ⟨rfl, rfl⟩
  · obtain ⟨c0, -⟩ := ht.c1
    have HD := Lib.hid (fun ty => (show ∃ w', (Builtin.delete_ #[63, 3] ty #[.map none, .int .i64 i]).run Tryd.prog w = .ok (.tuple #[]) w' ∧ w = w' from ⟨w, Maps.drop_nil keyedI Tryd.underlying63 (keyI_of hi) ty, rfl⟩))
    clear ht hi
    go_enter Tryd.func15, Tryd.ntmps15
    go_wp2_with (at_delete; refine wpList_delete_any rfl rfl _ _ rfl rfl rfl HD.out ?_; rintro w3 rfl)
    go_end0
    exact ⟨rfl, rfl⟩
theorem remove_nobody (h : IsNo w v) {i : Int} (hi : I64 i) {s : ByteArray} (hs : s.size ≤ maxLen) : Calls Tryd.prog 13 #[v, .int .i64 i, .string s] w fun e w' => e = .returned (.bool false) ∧ Below w.heap.size w w' := by
  have HO := Lib.hid (of_no h hi)
  have HH := Lib.hid (has_nil hs w)
  clear h hi hs
  go_enter Tryd.func13, Tryd.ntmps13
  go_upto_region 2 with (go_at_call 33; ((with_reducible refine (HO.out).mono ?_); rintro e w1 ⟨rfl, rfl⟩))
  go_wp2_with (go_at_call 34; ((with_reducible refine (HH.out).mono ?_); rintro e w2 ⟨rfl, hb2⟩); have HB2 := Lib.hid hb2; clear hb2)
  go_ret
  exact ⟨rfl, HB2.out⟩
set_option maxRecDepth 100000 in
theorem set_nobody (h : IsNo w v) {i : Int} (hi : I64 i) (p : Pr) : Calls Tryd.prog 11 #[v, .int .i64 i, prV p] w fun e w' => e = .returned (.int .i64 3) ∧ Below w.heap.size w w' := by
  have hbel : Below w.heap.size w (w.alloc (.cells #[.string p.name, .string p.typ, .string p.data] 27)) := (Below.refl _ _).alloc (Nat.le_refl _) _
  have HO := Lib.hid (of_no (h.next hbel) hi)
  have HB := Lib.hid hbel
  have h' := h.next hbel
  clear h hi hbel
  rcases h' with rfl | ⟨t, rfl, ht⟩
  · go_enter Tryd.func11, Tryd.ntmps11
    go_wp2_with (go_at_call 33; ((with_reducible refine (HO.out).mono ?_); rintro e w1 ⟨rfl, rfl⟩))
    go_ret
    exact ⟨rfl, HB.out⟩
  · obtain ⟨c0, -⟩ := ht.c1
    have em1 : ∀ W : World, (binOp .eql 63 (.map none) (.map none)).run Tryd.prog W = .ok (.bool true) W := fun W => by kernel_rfl
    clear ht
    go_enter Tryd.func11, Tryd.ntmps11
    go_wp2_with (go_at_call 33; ((with_reducible refine (HO.out).mono ?_); rintro e w1 ⟨rfl, rfl⟩))
    go_ret
    exact ⟨rfl, HB.out⟩
set_option maxRecDepth 100000 in
set_option maxHeartbeats 2000000 in
theorem get_nobody (h : IsNo w v) {i : Int} (hi : I64 i) {s : ByteArray} (hs : s.size ≤ maxLen) :
    Calls Tryd.prog 16 #[v, .int .i64 i, .string s] w fun e w' => e = .returned (.tuple #[prV noP, .bool false]) ∧ Below w.heap.size w w' := by
  obtain ⟨wb, hwb⟩ : ∃ wb, wb = w.alloc (.cells #[.string ⟨#[]⟩, .string ⟨#[]⟩, .string ⟨#[]⟩] 27) := ⟨_, rfl⟩
  have hbel : Below w.heap.size w wb := by rw [hwb]; exact (Below.refl _ _).alloc (Nat.le_refl _) _
  have hbx : Blk wb w.heap.size 27 #[.string ⟨#[]⟩, .string ⟨#[]⟩, .string ⟨#[]⟩] := by rw [hwb]; exact Blk.new w _ _
  have HOF := Lib.hid (of_no (h.next hbel) hi)
  have e0 := look_nilS wb hs
  obtain ⟨q, hqq⟩ : ∃ q, q = noP := ⟨_, rfl⟩
  rw [← hqq] at e0
  rw [← hqq]
  have HCP := Lib.hid (fun W => copied_c q W (by rw [hqq]; decide +kernel))
  have HX := Lib.hid hbx
  have HB := Lib.hid hbel
  have HW := Lib.hid hwb
  clear h hqq hbel hbx hi hs
  go_enter Tryd.func16, Tryd.ntmps16
  go_upto_region 1 with fail
  rw [← HW.out]
  clear hwb
  go_upto_region 2 with (go_at_call 33; ((with_reducible refine (HOF.out).mono ?_); rintro e w1 ⟨rfl, rfl⟩))
  have hb2 := (Below.refl _ wb).alloc (Nat.le_refl _) (.cells #[.string q.name, .string q.typ, .string q.data] 27)
  have hx2 := Blk.new wb 27 #[.string q.name, .string q.typ, .string q.data]
  obtain ⟨g2, hg2⟩ : ∃ g2, g2 = wb.heap.size := ⟨_, rfl⟩
  rw [← hg2] at hx2 ⊢
  clear hg2
  generalize wb.alloc (.cells #[.string q.name, .string q.typ, .string q.data] 27) = w2 at hb2 hx2 ⊢
  have HB2 := Lib.hid hb2
  obtain ⟨⟨x0, x1, x2⟩, -⟩ := hx2.c3
  clear hb2 hx2 e0
  go_wp2_with (go_at_call 35; ((with_reducible refine (HCP.out _).mono ?_); rintro e w3 ⟨rfl, hb3⟩); have HB3 := Lib.hid (hb3.on HB2.out HB2.out.size); obtain ⟨⟨z0, z1, z2⟩, ⟨f0, f1, f2⟩⟩ := (HX.out.next HB3.out).c3; clear hb3)
  refine bodyPost_ret (v := .tuple #[prV q, .bool false]) (by simp [results, Tryd.results16, go_sem, z0, z1, z2]) rfl ?_
  exact ⟨rfl, (((HB3.out.on HB.out HB.out.size).setCell (Nat.le_refl _) _).setCell (Nat.le_refl _) _).setCell (Nat.le_refl _) _⟩
end
end Go.Proofs.YtfflgkbemfichaaDoor
