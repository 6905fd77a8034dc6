/- The law FontDraws holds for every input: the call returns true, and each argument reads behind it as it read before. No condition. -/
import Derived.Test.YtedhgdjlcddchaaRows
import Derived.Test.YtedhgdjlcddchaaFoH
import Derived.Test.YtedhgdjlcddchaaRaY
import Derived.Test.YtedhgdjlcddchaaOpen
import Derived.Lib.SmallJoins
import Derived.Laws.Cover2
import Derived.SizedLaws
import Derived.ChangeMaps5
namespace Go.Proofs.Ytedhgdjlcddchaa.lawFontDraws
open Go.ChangeShapes Go.WideShapes Go.ChangeAt Go.RowKit Go.Joins
theorem own : ownKnob Try.prog.godebug = none := by kernel_rfl
theorem laidOut : laidOutB Try.prog = true := by kernel_rfl
set_option maxHeartbeats 1000000 in
set_option maxRecDepth 100000 in
theorem lifted (os : Os) (started : os.Started) (H : Type) (enc : TypeId × Value → H) :
    ReturnsInHanded {} Try.checked os 11 .any (Rows.fontDrawsSpec.pre6 enc Try.prog Try.f11 Rows.fontDrawsRow.domain false) (Rows.fontDrawsSpec.post enc Try.prog Try.f11 false true false false) := by
  refine returnsInHanded_of_change_sized (C := Try.checked) own started (by kernel_rfl) Try.func11
    (ChangeSpec.witness6 (enc := enc) (C := Try.checked) false ⟨#[], #[.int .u8 0, .int .u8 0, .agg #[.int .i64 0, .int .i64 0, .int .i64 0, .int .i64 0], .agg #[.int .i64 0, .int .i64 0], .string ⟨#[]⟩, .int .u32 0], []⟩ 8 (by kernel_rfl) (by kernel_rfl) (by kernel_rfl) (by kernel_rfl)) ?_
  intro W base args ds gs before hval0 hW _ hsz0 _
  have hsz : (DataW.weightsEach Try.prog (Try.f11.params.toList ++ Rows.fontDrawsSpec.plain.varTypes Try.prog) (ds ++ gs)).all (· ≤ reachBytes) = true := hsz0
  have hval : ∀ (j : Nat) t v, Try.f11.params[j]? = some t → args[j]? = some v → Value.okWide Try.prog W .any base t v := hval0
  have hW' := hW
  obtain ⟨p, q, hA0, hV, rfl, _, _⟩ := hW
  have hA : DataW.TrodAll enc Try.prog W 0 (fun _ => true) true Try.f11.params.toList args.toList ds p := hA0
  rw [Try.params11] at hA hval hsz
  obtain ⟨v0, vs0, d0, ds0, p0, q0, hargs, rfl, rfl, h0, r0⟩ := trodAll_cons hA
  obtain ⟨v1, vs1, d1, ds1, p1, q1, rfl, rfl, rfl, h1, r1⟩ := trodAll_cons r0
  obtain ⟨v2, vs2, d2, ds2, p2, q2, rfl, rfl, rfl, h2, r2⟩ := trodAll_cons r1
  obtain ⟨v3, vs3, d3, ds3, p3, q3, rfl, rfl, rfl, h3, r3⟩ := trodAll_cons r2
  obtain ⟨v4, vs4, d4, ds4, p4, q4, rfl, rfl, rfl, h4, r4⟩ := trodAll_cons r3
  obtain ⟨v5, vs5, d5, ds5, p5, q5, rfl, rfl, rfl, h5, r5⟩ := trodAll_cons r4
  obtain ⟨rfl, rfl, rfl⟩ := trodAll_nil r5
  obtain rfl : args = #[v0, v1, v2, v3, v4, v5] := by cases args; simp_all
  obtain ⟨rfl, rfl⟩ := trodVars_none hV
  have k0 := h0
  have k1 := h1
  have k2 := h2
  have k3 := h3
  have k4 := h4
  have k5 := h5
  clear hA0 hval0
  simp only [List.append_nil] at hW'
  obtain ⟨a0, rfl, _, _, hw0⟩ := open_int Try.underlying5 (hval 0 5 v0 rfl rfl) h0
  obtain ⟨a1, rfl, _, _, hw1⟩ := open_int Try.underlying5 (hval 1 5 v1 rfl rfl) h1
  obtain ⟨n2_0, n2_1, n2_2, n2_3, rfl⟩ := rect_of (hval 2 40 v2 rfl rfl) h2
  obtain ⟨n3_0, n3_1, rfl⟩ := point_of (hval 3 32 v3 rfl rfl) h3
  obtain ⟨s4, rfl, hd4, _, _⟩ := Go.ChangeMaps.open_string Try.underlying9 (hval 4 9 v4 rfl rfl) h4
  subst hd4
  have z4 : s4.size ≤ 140737488355328 := by have h := sized_string hsz (j := 4) (t := 9) (bytes := s4.data.toList) rfl rfl; rw [Array.length_toList] at h; exact Nat.le_trans h (by decide)
  obtain ⟨a5, rfl, _, _, hw5⟩ := open_int Try.underlying50 (hval 5 50 v5 rfl rfl) h5
  refine (draws_w a0 a1 n2_0 n2_1 n2_2 n2_3 n3_0 n3_1 s4 a5 W hw0 hw1 z4 hw5).mono fun e W' ⟨he, hb⟩ => ?_
  subst he
  have g0 := Below.trod (W' := W') laidOut (by kernel_rfl) (of_decide_eq_true (by kernel_rfl)) k0 hb (fun y hy => by simpa using hW'.lt y (by simp [hy]))
  have g1 := Below.trod (W' := W') laidOut (by kernel_rfl) (of_decide_eq_true (by kernel_rfl)) k1 hb (fun y hy => by simpa using hW'.lt y (by simp [hy]))
  have g2 := Below.trod (W' := W') laidOut (by kernel_rfl) (of_decide_eq_true (by kernel_rfl)) k2 hb (fun y hy => by simpa using hW'.lt y (by simp [hy]))
  have g3 := Below.trod (W' := W') laidOut (by kernel_rfl) (of_decide_eq_true (by kernel_rfl)) k3 hb (fun y hy => by simpa using hW'.lt y (by simp [hy]))
  have g4 := Below.trod (W' := W') laidOut (by kernel_rfl) (of_decide_eq_true (by kernel_rfl)) k4 hb (fun y hy => by simpa using hW'.lt y (by simp [hy]))
  have g5 := Below.trod (W' := W') laidOut (by kernel_rfl) (of_decide_eq_true (by kernel_rfl)) k5 hb (fun y hy => by simpa using hW'.lt y (by simp [hy]))
  exact ⟨_, rfl, post_args hW' (fun _ _ _ => (trodAll_cons_mk (shut_bool Try.underlying4 _) trodAll_mk0)) (by have hh := (trodAll_cons_mk g0 (trodAll_cons_mk g1 (trodAll_cons_mk g2 (trodAll_cons_mk g3 (trodAll_cons_mk g4 (trodAll_cons_mk g5 trodAll_mk0)))))); simp only [List.append_nil] at hh; exact hh) rfl hb⟩
theorem over : Rows.fontDrawsRow.holds Try.pinned (OpenSpec.ofChange Rows.fontDrawsSpec) :=
  OpenClaim.holds_of_wide 11 Try.f11 rfl rfl rfl rfl rfl rfl rfl ⟨rfl, rfl, rfl, rfl, rfl⟩ rfl rfl rfl rfl rfl (by kernel_rfl) Try.func11 (by kernel_rfl)
    (of_decide_eq_true (by kernel_rfl)) (by unfold Func.isWrapper; first | (rw [if_pos (by decide +kernel)]; kernel_rfl) | (rw [if_neg (by decide +kernel)]; exact ⟨rfl, rfl⟩))
    (fun os started H enc _ => lifted os started H enc)
theorem proved : Rows.FontDrawsSaid := over
#print axioms proved
end Go.Proofs.Ytedhgdjlcddchaa.lawFontDraws
