/- The law GeomInsets holds for every input: the call returns true, and each argument reads behind it as it read before. No condition. -/
import Derived.Test.YteaiedcajgdodaaRows
import Derived.Test.YteaiedcajgdodaaPost
import Derived.Test.YteaiedcajgdodaaArr
import Derived.Test.YteaiedcajgdodaaLawH
import Derived.Lib.SmallJoins
namespace Go.Proofs.Yteaiedcajgdodaa.lawGeomInsets
open Go.ChangeShapes Go.WideShapes Go.ChangeAt Go.RowKit Go.Joins
theorem own : ownKnob Try.prog.godebug = none := by kernel_rfl
theorem cells47 : Try.prog.cellsOf 47 = 4 := by kernel_rfl
theorem cells27 : Try.prog.cellsOf 27 = 4 := by kernel_rfl
theorem one46 : Try.prog.cellsOf 46 = 1 := by kernel_rfl
set_option maxHeartbeats 1000000 in
set_option maxRecDepth 100000 in
theorem lifted (os : Os) (started : os.Started) (H : Type) (enc : TypeId × Value → H) :
    ReturnsInHanded {} Try.checked os 10 .any (Rows.geomInsetsSpec.pre6 enc Try.prog Try.f10 Rows.geomInsetsRow.domain false) (Rows.geomInsetsSpec.post enc Try.prog Try.f10 false true false false) := by
  refine returnsInHanded_of_change (C := Try.checked) own started (by kernel_rfl) Try.func10
    (ChangeSpec.witness6 (enc := enc) (C := Try.checked) false ⟨#[], #[.agg #[.int .i64 0, .int .i64 0, .int .i64 0, .int .i64 0], .agg #[.int .u16 0, .int .u16 0, .int .u16 0, .int .u16 0], .agg #[.int .u16 0, .int .u16 0, .int .u16 0, .int .u16 0]], []⟩ 8 (by kernel_rfl) (by kernel_rfl) (by kernel_rfl) (by kernel_rfl)) ?_
  intro W base args ds gs before hval0 hW _ _
  have hval : ∀ (j : Nat) t v, Try.f10.params[j]? = some t → args[j]? = some v → Value.okWide Try.prog W .any base t v := hval0
  have hW' := hW
  obtain ⟨p, q, hA0, hV, rfl, _, _⟩ := hW
  have hA : DataW.TrodAll enc Try.prog W 0 (fun _ => true) true Try.f10.params.toList args.toList ds p := hA0
  rw [Try.params10] at hA hval
  obtain ⟨v0, vs0, d0, ds0, p0, q0, hargs, rfl, rfl, h0, r0⟩ := trodAll_cons hA
  obtain ⟨v1, vs1, d1, ds1, p1, q1, rfl, rfl, rfl, h1, r1⟩ := trodAll_cons r0
  obtain ⟨v2, vs2, d2, ds2, p2, q2, rfl, rfl, rfl, h2, r2⟩ := trodAll_cons r1
  obtain ⟨rfl, rfl, rfl⟩ := trodAll_nil r2
  obtain rfl : args = #[v0, v1, v2] := by cases args; simp_all
  obtain ⟨rfl, rfl⟩ := trodVars_none hV
  obtain ⟨c00, c01, c02, c03, y00, y01, y02, y03, m0, rfl, rfl, rfl, hy00, hy01, hy02, hy03⟩ := open_agg4 Try.underlying27 (by kernel_rfl) cells27 (hval 0 27 v0 rfl rfl) h0
  obtain ⟨a0x, e00, rfl, w00⟩ := DataW.trod_int Try.underlying3 hy00
  obtain ⟨a0y, e01, rfl, w01⟩ := DataW.trod_int Try.underlying3 hy01
  obtain ⟨a0w, e02, rfl, w02⟩ := DataW.trod_int Try.underlying3 hy02
  obtain ⟨a0h, e03, rfl, w03⟩ := DataW.trod_int Try.underlying3 hy03
  simp at e00 e01 e02 e03
  subst e00 e01 e02 e03
  obtain ⟨c10, c11, c12, c13, y10, y11, y12, y13, m1, rfl, rfl, rfl, hy10, hy11, hy12, hy13⟩ := open_arr4 Try.underlying47 one46 cells47 (hval 1 47 v1 rfl rfl) h1
  obtain ⟨a1_0, e10, rfl, w10⟩ := DataW.trod_int Try.underlying46 hy10
  obtain ⟨a1_1, e11, rfl, w11⟩ := DataW.trod_int Try.underlying46 hy11
  obtain ⟨a1_2, e12, rfl, w12⟩ := DataW.trod_int Try.underlying46 hy12
  obtain ⟨a1_3, e13, rfl, w13⟩ := DataW.trod_int Try.underlying46 hy13
  simp at e10 e11 e12 e13
  subst e10 e11 e12 e13
  obtain ⟨c20, c21, c22, c23, y20, y21, y22, y23, m2, rfl, rfl, rfl, hy20, hy21, hy22, hy23⟩ := open_arr4 Try.underlying47 one46 cells47 (hval 2 47 v2 rfl rfl) h2
  obtain ⟨a2_0, e20, rfl, w20⟩ := DataW.trod_int Try.underlying46 hy20
  obtain ⟨a2_1, e21, rfl, w21⟩ := DataW.trod_int Try.underlying46 hy21
  obtain ⟨a2_2, e22, rfl, w22⟩ := DataW.trod_int Try.underlying46 hy22
  obtain ⟨a2_3, e23, rfl, w23⟩ := DataW.trod_int Try.underlying46 hy23
  simp at e20 e21 e22 e23
  subst e20 e21 e22 e23
  clear hA0 hval0
  simp only [List.append_nil] at hW'
  refine (insets_w a0x a0y a0w a0h a1_0 a1_1 a1_2 a1_3 a2_0 a2_1 a2_2 a2_3 W (u16_of w10) (u16_of w11) (u16_of w12) (u16_of w13) (u16_of w20) (u16_of w21) (u16_of w22) (u16_of w23)).mono fun e W' ⟨he, hb⟩ => ?_
  subst he
  exact ⟨_, rfl, post_bare hW' (fun _ _ _ => (trodAll_cons_mk (shut_bool Try.underlying4 _) trodAll_mk0)) (fun _ => (trodAll_cons_mk (shut_agg4 (y0 := (.lit (.int .i64 a0x), [])) (y1 := (.lit (.int .i64 a0y), [])) (y2 := (.lit (.int .i64 a0w), [])) (y3 := (.lit (.int .i64 a0h), [])) Try.underlying27 (by kernel_rfl) cells27 ⟨1, by simp [DataW.trod, Try.underlying3, w00]⟩ ⟨1, by simp [DataW.trod, Try.underlying3, w01]⟩ ⟨1, by simp [DataW.trod, Try.underlying3, w02]⟩ ⟨1, by simp [DataW.trod, Try.underlying3, w03]⟩) (trodAll_cons_mk (shut_arr4 (y0 := (.lit (.int .u16 a1_0), [])) (y1 := (.lit (.int .u16 a1_1), [])) (y2 := (.lit (.int .u16 a1_2), [])) (y3 := (.lit (.int .u16 a1_3), [])) Try.underlying47 one46 cells47 ⟨1, by simp [DataW.trod, Try.underlying46, w10]⟩ ⟨1, by simp [DataW.trod, Try.underlying46, w11]⟩ ⟨1, by simp [DataW.trod, Try.underlying46, w12]⟩ ⟨1, by simp [DataW.trod, Try.underlying46, w13]⟩) (trodAll_cons_mk (shut_arr4 (y0 := (.lit (.int .u16 a2_0), [])) (y1 := (.lit (.int .u16 a2_1), [])) (y2 := (.lit (.int .u16 a2_2), [])) (y3 := (.lit (.int .u16 a2_3), [])) Try.underlying47 one46 cells47 ⟨1, by simp [DataW.trod, Try.underlying46, w20]⟩ ⟨1, by simp [DataW.trod, Try.underlying46, w21]⟩ ⟨1, by simp [DataW.trod, Try.underlying46, w22]⟩ ⟨1, by simp [DataW.trod, Try.underlying46, w23]⟩) trodAll_mk0)))) (fun _ => rfl) hb (ok_one (by kernel_rfl) rfl (okWide_bool_mk Try.underlying4 _))⟩
theorem over : Rows.geomInsetsRow.holds Try.pinned (OpenSpec.ofChange Rows.geomInsetsSpec) :=
  OpenClaim.holds_of_wide 10 Try.f10 rfl rfl rfl rfl rfl rfl rfl ⟨rfl, rfl, rfl, rfl, rfl⟩ rfl rfl rfl rfl rfl (by kernel_rfl) Try.func10 (by kernel_rfl)
    (of_decide_eq_true (by kernel_rfl)) (by unfold Func.isWrapper; first | (rw [if_pos (by decide +kernel)]; kernel_rfl) | (rw [if_neg (by decide +kernel)]; exact ⟨rfl, rfl⟩))
    (fun os started H enc _ => lifted os started H enc)
theorem proved : Rows.GeomInsetsSaid := over
#print axioms proved
end Go.Proofs.Yteaiedcajgdodaa.lawGeomInsets
