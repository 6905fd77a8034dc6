/- Texts SuH. -/
import Derived.Test.YtnhchpiafchdgaaGreatTay
import Derived.Test.YtnhchpiafchdgaaGreatTaa
namespace Go.Proofs.YtnhchpiafchdgaaGreat
open Go.RowKit Go.Shelf Go.Maps
section
variable {w w' w0 : World} {r : Nat} {Z : Zl} {X : Xs} {k : Nat}
theorem wrong_parts {X : Xs} {a kind : Int} (h : X.wrong a kind = true) : a < 0 ∨ (a = 0 ∧ X.G = false) ∨ (¬ a < 0 ∧ (a = 0 → X.G = true) ∧ kind < 1) ∨ (¬ a < 0 ∧ (a = 0 → X.G = true) ∧ ¬ kind < 1 ∧ 11 < kind) := by
 unfold Xs.wrong at h
 by_cases h1 : a < 0
 · exact .inl h1
 · by_cases h2 : a = 0 ∧ X.G = false
   · exact .inr (.inl h2)
   · have h3 : a = 0 → X.G = true := fun e => by
       cases hg : X.G with
       | true => rfl
       | false => exact absurd ⟨e, hg⟩ h2
     by_cases h4 : kind < 1
     · exact .inr (.inr (.inl ⟨h1, h3, h4⟩))
     · refine .inr (.inr (.inr ⟨h1, h3, h4, ?_⟩))
       by_cases h5 : a = 0
       · simpa [h5, h3 h5, h4] using h
       · simpa [h5, h1, h4] using h
theorem right_parts {X : Xs} {a kind : Int} (h : X.wrong a kind = false) : ¬ a < 0 ∧ (a = 0 → X.G = true) ∧ ¬ kind < 1 ∧ ¬ 11 < kind := by
 unfold Xs.wrong at h
 simp only [Bool.or_eq_false_iff, Bool.and_eq_false_iff, decide_eq_false_iff_not] at h
 obtain ⟨⟨⟨h1, h2⟩, h3⟩, h4⟩ := h
 refine ⟨h1, fun e => ?_, h3, h4⟩
 rcases h2 with h2 | h2
 · exact absurd e h2
 · simpa using h2
set_option maxRecDepth 100000 in
set_option maxHeartbeats 8000000 in
theorem rdo_wrong (h : Ref w r Z X) (a : Int) (q : Rq) (hw : X.wrong a q.kind = true) :
  Calls Tryz.prog 38 #[refP r, .int .i64 a, rqV q] w fun ex w' => ex = .returned (.tuple #[.int .i64 0, .int .i64 1]) ∧ RefTo w r Z X w' := by
 obtain ⟨wb, hwb⟩ : ∃ wb, wb = w.alloc (.cells #[.int .i64 q.kind, .int .i64 q.win, .int .i64 q.other, .int .i64 q.x, .int .i64 q.y, .int .i64 q.a, .int .i64 q.e, .string q.p.name, .string q.p.typ, .string q.p.data] 37) := ⟨_, rfl⟩
 have hbel : Below w.heap.size w wb := by rw [hwb]; exact (Below.refl _ _).alloc (Nat.le_refl _) _
 have hbx : Blk wb w.heap.size 37 (rqL q) := by rw [hwb]; exact Blk.new w _ _
 have hs := h.next hbel
 obtain ⟨x0, -, -, -, -, -, -, -, -, -⟩ := hbx.c10
 have b9 := hs.blk.at_ (i := 9) (v := .bool X.G) rfl
 have HW := Lib.hid hwb
 have HQ := Lib.hid (RefTo.same h hbel)
 have hc := wrong_parts hw
 have hd : (∃ g, X.G = g ∧ ((a < 0) ∨ (a = 0 ∧ g = false) ∨ (¬ a < 0 ∧ a = 0 ∧ g = true ∧ q.kind < 1) ∨ (¬ a < 0 ∧ (a == 0) = false ∧ q.kind < 1) ∨ (¬ a < 0 ∧ a = 0 ∧ g = true ∧ ¬ q.kind < 1 ∧ 11 < q.kind) ∨ (¬ a < 0 ∧ (a == 0) = false ∧ ¬ q.kind < 1 ∧ 11 < q.kind))) := by
  refine ⟨_, rfl, ?_⟩
  by_cases h0 : a = 0
  · rcases hc with e | e | ⟨e1, e2, e3⟩ | ⟨e1, e2, e3, e4⟩
    · exact .inl e
    · exact .inr (.inl e)
    · exact .inr (.inr (.inl ⟨e1, h0, e2 h0, e3⟩))
    · exact .inr (.inr (.inr (.inr (.inl ⟨e1, h0, e2 h0, e3, e4⟩))))
  · have h0' : (a == 0) = false := by simpa using h0
    rcases hc with e | e | ⟨e1, e2, e3⟩ | ⟨e1, e2, e3, e4⟩
    · exact .inl e
    · exact absurd e.1 h0
    · exact .inr (.inr (.inr (.inl ⟨e1, h0', e3⟩)))
    · exact .inr (.inr (.inr (.inr (.inr ⟨e1, h0', e3, e4⟩))))
 obtain ⟨g, hg, hd⟩ := hd
 rw [hg] at b9
 clear h hbel hbx hs hc hw hg
 rcases hd with e | ⟨rfl, rfl⟩ | ⟨e1, rfl, rfl, e2⟩ | ⟨e1, e2, e3⟩ | ⟨e1, rfl, rfl, e2, e3⟩ | ⟨e1, e2, e3, e4⟩
 all_goals
  go_enter Tryz.func38, Tryz.ntmps38
  go_upto_region 1 with fail
  rw [← HW.out]
  clear hwb
  go_wp2_with fail
  go_ret2
  exact ⟨rfl, HQ.out⟩
set_option maxRecDepth 100000 in
set_option maxHeartbeats 8000000 in
theorem rdo_other (h : Ref w r Z X) (hV : V0 X k) (hML : X.M.length ≤ 1000) (hk : k + 1 ≤ 1000) (a : Int) (q : Rq) (hw : X.wrong a q.kind = false) (h1 : q.kind ≠ 1) (hi : I64 q.win) (ho : I64 q.other) (z1 : q.p.name.size ≤ maxLen) (z2 : q.p.typ.size ≤ maxLen) :
  Calls Tryz.prog 38 #[refP r, .int .i64 a, rqV q] w fun ex w' => ex = .returned (.tuple #[.int .i64 0, .int .i64 (X.other a q).1]) ∧ RefTo w r Z (X.other a q).2.look w' := by
 obtain ⟨wb, hwb⟩ : ∃ wb, wb = w.alloc (.cells #[.int .i64 q.kind, .int .i64 q.win, .int .i64 q.other, .int .i64 q.x, .int .i64 q.y, .int .i64 q.a, .int .i64 q.e, .string q.p.name, .string q.p.typ, .string q.p.data] 37) := ⟨_, rfl⟩
 have hbel : Below w.heap.size w wb := by rw [hwb]; exact (Below.refl _ _).alloc (Nat.le_refl _) _
 have hbx : Blk wb w.heap.size 37 (rqL q) := by rw [hwb]; exact Blk.new w _ _
 have hs := h.next hbel
 obtain ⟨x0, x1, x2, x3, x4, x5, x6, x7, x8, x9⟩ := hbx.c10
 have b9 := hs.blk.at_ (i := 9) (v := .bool X.G) rfl
 have HW := Lib.hid hwb
 obtain ⟨e1, e0, e2, e3⟩ := right_parts hw
 have hO := V0.others hV hk a q hi ho
 obtain ⟨Y, hY⟩ : ∃ Y, Y = X.other a q := ⟨_, rfl⟩
 have HOT := Lib.hid (show Calls Tryz.prog 63 #[refP r, .int .i64 a, rqV q] wb fun ex w' => ex = .returned (.int .i64 Y.1) ∧ RefTo w r Z Y.2 w' from
  (rother_c hs hV hML a q (by omega) hi ho z1 z2).mono fun ex w' hh => by rw [hY]; exact ⟨hh.1, RefTo.after hbel hh.2⟩)
 rw [← hY] at hO ⊢
 have HOO := Lib.hid hO
 have h1' : (q.kind == 1) = false := by simpa using h1
 have hd : ∃ g, X.G = g ∧ ((a = 0 ∧ g = true) ∨ (a == 0) = false) := by
  refine ⟨_, rfl, ?_⟩
  by_cases h0 : a = 0
  · exact .inl ⟨h0, e0 h0⟩
  · exact .inr (by simpa using h0)
 obtain ⟨g, hg, hd⟩ := hd
 rw [hg] at b9
 clear h hV hML hbel hbx hs hw hg e0 hO hY h1 hi ho z1 z2
 rcases hd with ⟨rfl, rfl⟩ | e4
 all_goals
  go_enter Tryz.func38, Tryz.ntmps38
  go_upto_region 1 with fail
  rw [← HW.out]
  clear hwb
  go_wp2_with (first
    | (go_at_call 63; ((with_reducible refine (HOT.out).mono ?_); rintro e w3 ⟨rfl, Z3, S3, U3⟩); have HLK := Lib.hid (rlook_c S3 HOO.out.s HOO.out.f64); have HU3 := Lib.hid U3; clear S3 U3)
    | (go_at_call 61; ((with_reducible refine (HLK.out).mono ?_); rintro e w4 ⟨rfl, T4⟩); have HZ := Lib.hid (RefTo.trans HU3.out T4); clear T4))
  go_ret2
  exact ⟨rfl, HZ.out⟩
end
end Go.Proofs.YtnhchpiafchdgaaGreat
