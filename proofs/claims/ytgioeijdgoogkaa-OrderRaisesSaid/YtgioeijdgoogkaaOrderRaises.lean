/- The law OrderRaises holds for every input: the call returns true, and each argument reads behind it as it read before. No condition. -/
import Derived.Test.YtgioeijdgoogkaaRows
import Derived.Test.YtgioeijdgoogkaaOdZ
import Derived.Lib.SmallJoins
import Derived.Laws.Cover2
namespace Go.Proofs.Ytgioeijdgoogkaa.lawOrderRaises
open Go.ChangeShapes Go.WideShapes Go.ChangeAt Go.RowKit Go.Joins
theorem own : ownKnob Try.prog.godebug = none := by kernel_rfl
theorem laidOut : laidOutB Try.prog = true := by kernel_rfl
set_option maxHeartbeats 1000000 in
set_option maxRecDepth 100000 in
theorem lifted (os : Os) (started : os.Started) (H : Type) (enc : TypeId × Value → H) :
    ReturnsInHanded {} Try.checked os 7 .any (Rows.orderRaisesSpec.pre6 enc Try.prog Try.f7 Rows.orderRaisesRow.domain false) (Rows.orderRaisesSpec.post enc Try.prog Try.f7 false true false false) := by
  refine returnsInHanded_of_change (C := Try.checked) own started (by kernel_rfl) Try.func7
    (ChangeSpec.witness6 (enc := enc) (C := Try.checked) false ⟨#[], #[.slice none 0 0, .int .u64 0], []⟩ 8 (by kernel_rfl) (by kernel_rfl) (by kernel_rfl) (by kernel_rfl)) ?_
  intro W base args ds gs before hval0 hW _ _
  have hval : ∀ (j : Nat) t v, Try.f7.params[j]? = some t → args[j]? = some v → Value.okWide Try.prog W .any base t v := hval0
  have hW' := hW
  obtain ⟨p, q, hA0, hV, rfl, _, _⟩ := hW
  have hA : DataW.TrodAll enc Try.prog W 0 (fun _ => true) true Try.f7.params.toList args.toList ds p := hA0
  rw [Try.params7] at hA hval
  obtain ⟨v0, vs0, d0, ds0, p0, q0, hargs, rfl, rfl, h0, r0⟩ := trodAll_cons hA
  obtain ⟨v1, vs1, d1, ds1, p1, q1, rfl, rfl, rfl, h1, r1⟩ := trodAll_cons r0
  obtain ⟨rfl, rfl, rfl⟩ := trodAll_nil r1
  obtain rfl : args = #[v0, v1] := by cases args; simp_all
  obtain ⟨rfl, rfl⟩ := trodVars_none hV
  have k0 := h0
  have k1 := h1
  clear hA0 hval0
  simp only [List.append_nil] at hW'
  obtain ⟨n0_0, p0_0, p0_1, p0_2, p0_3⟩ := Od.items_of (hval 0 22 v0 rfl rfl) h0
  obtain ⟨a1, rfl, _, _, hw1⟩ := open_int Try.underlying39 (hval 1 39 v1 rfl rfl) h1
  refine (Od.raises_w v0 n0_0 a1 W p0_0 p0_1 p0_2 p0_3 hw1).mono fun e W' ⟨he, hb⟩ => ?_
  subst he
  have g0 := Below.trod (W' := W') laidOut (by kernel_rfl) (of_decide_eq_true (by kernel_rfl)) k0 hb (fun y hy => by simpa using hW'.lt y (by simp [hy]))
  have g1 := Below.trod (W' := W') laidOut (by kernel_rfl) (of_decide_eq_true (by kernel_rfl)) k1 hb (fun y hy => by simpa using hW'.lt y (by simp [hy]))
  exact ⟨_, rfl, post_args hW' (fun _ _ _ => (trodAll_cons_mk (shut_bool Try.underlying4 _) trodAll_mk0)) (by have hh := (trodAll_cons_mk g0 (trodAll_cons_mk g1 trodAll_mk0)); simp only [List.append_nil] at hh; exact hh) rfl hb⟩
theorem over : Rows.orderRaisesRow.holds Try.pinned (OpenSpec.ofChange Rows.orderRaisesSpec) :=
  OpenClaim.holds_of_wide 7 Try.f7 rfl rfl rfl rfl rfl rfl rfl ⟨rfl, rfl, rfl, rfl, rfl⟩ rfl rfl rfl rfl rfl (by kernel_rfl) Try.func7 (by kernel_rfl)
    (of_decide_eq_true (by kernel_rfl)) (by unfold Func.isWrapper; first | (rw [if_pos (by decide +kernel)]; kernel_rfl) | (rw [if_neg (by decide +kernel)]; exact ⟨rfl, rfl⟩))
    (fun os started H enc _ => lifted os started H enc)
theorem proved : Rows.OrderRaisesSaid := over
#print axioms proved
end Go.Proofs.Ytgioeijdgoogkaa.lawOrderRaises
