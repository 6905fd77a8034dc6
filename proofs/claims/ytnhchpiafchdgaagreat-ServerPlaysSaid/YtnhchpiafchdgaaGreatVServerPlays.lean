/- The law ServerPlays holds for every input: the call returns true, and each argument reads behind it as it read before. No condition. -/
import Derived.Test.YtnhchpiafchdgaaGreatRows
import Derived.Test.YtnhchpiafchdgaaGreatVbg
import Derived.Test.YtnhchpiafchdgaaGreatTbb
import Derived.Lib.SmallJoins
import Derived.Laws.Cover2
import Derived.SizedLaws
import Derived.ChangeMaps5
namespace Go.Proofs.YtnhchpiafchdgaaGreat.lawServerPlays
open Go.ChangeShapes Go.WideShapes Go.ChangeAt Go.RowKit Go.Joins
theorem own : ownKnob Tryz.prog.godebug = none := by kernel_rfl
theorem laidOut : laidOutB Tryz.prog = true := by kernel_rfl
set_option maxHeartbeats 1000000 in
set_option maxRecDepth 100000 in
theorem lifted (os : Os) (started : os.Started) (H : Type) (enc : TypeId × Value → H) :
  ReturnsInHanded {} Tryz.checked os 3 .any (Rows.serverPlaysSpec.pre6 enc Tryz.prog Tryz.f3 Rows.serverPlaysRow.domain false) (Rows.serverPlaysSpec.post enc Tryz.prog Tryz.f3 false true false false) := by
 refine returnsInHanded_of_change_sized (C := Tryz.checked) own started (by kernel_rfl) Tryz.func3
  (ChangeSpec.witness6 (enc := enc) (C := Tryz.checked) false ⟨#[], #[.agg #[.int .i64 0, .int .i64 0, .int .i64 0, .int .i64 0], .slice none 0 0, .string ⟨#[]⟩], []⟩ 8 (by kernel_rfl) (by kernel_rfl) (by kernel_rfl) (by kernel_rfl)) ?_
 intro W base args ds gs before hval0 hW _ hsz0 _
 have hsz : (DataW.weightsEach Tryz.prog (Tryz.f3.params.toList ++ Rows.serverPlaysSpec.plain.varTypes Tryz.prog) (ds ++ gs)).all (· ≤ reachBytes) = true := hsz0
 have hval : ∀ (j : Nat) t v, Tryz.f3.params[j]? = some t → args[j]? = some v → Value.okWide Tryz.prog W .any base t v := hval0
 have hW' := hW
 obtain ⟨p, q, hA0, hV, rfl, _, _⟩ := hW
 have hA : DataW.TrodAll enc Tryz.prog W 0 (fun _ => true) true Tryz.f3.params.toList args.toList ds p := hA0
 rw [Tryz.params3] at hA hval hsz
 obtain ⟨v0, vs0, d0, ds0, p0, q0, hargs, rfl, rfl, h0, r0⟩ := trodAll_cons hA
 obtain ⟨v1, vs1, d1, ds1, p1, q1, rfl, rfl, rfl, h1, r1⟩ := trodAll_cons r0
 obtain ⟨v2, vs2, d2, ds2, p2, q2, rfl, rfl, rfl, h2, r2⟩ := trodAll_cons r1
 obtain ⟨rfl, rfl, rfl⟩ := trodAll_nil r2
 obtain rfl : args = #[v0, v1, v2] := by cases args; simp_all
 obtain ⟨rfl, rfl⟩ := trodVars_none hV
 have k0 := h0
 have k1 := h1
 have k2 := h2
 clear hA0 hval0
 simp only [List.append_nil] at hW'
 obtain ⟨n0_0, n0_1, n0_2, n0_3, rfl⟩ := rect8_of (hval 0 23 v0 rfl rfl) h0
 obtain ⟨n1_0, p1_0⟩ := acts8_of (hval 1 24 v1 rfl rfl) h1
 obtain ⟨s2, rfl, hd2, _, _⟩ := Go.ChangeMaps.open_string Tryz.underlying9 (hval 2 9 v2 rfl rfl) h2
 subst hd2
 have z2 : s2.size ≤ 140737488355328 := by have h := sized_string hsz (j := 2) (t := 9) (bytes := s2.data.toList) rfl rfl; rw [Array.length_toList] at h; exact Nat.le_trans h (by decide)
 refine (plays_l n0_0 n0_1 n0_2 n0_3 v1 n1_0 s2 W p1_0 z2).mono fun e W' ⟨he, hb⟩ => ?_
 subst he
 have g0 := Below.trod (W' := W') laidOut (by kernel_rfl) (of_decide_eq_true (by kernel_rfl)) k0 hb (fun y hy => by simpa using hW'.lt y (by simp [hy]))
 have g1 := Below.trod (W' := W') laidOut (by kernel_rfl) (of_decide_eq_true (by kernel_rfl)) k1 hb (fun y hy => by simpa using hW'.lt y (by simp [hy]))
 have g2 := Below.trod (W' := W') laidOut (by kernel_rfl) (of_decide_eq_true (by kernel_rfl)) k2 hb (fun y hy => by simpa using hW'.lt y (by simp [hy]))
 exact ⟨_, rfl, post_args hW' (fun _ _ _ => (trodAll_cons_mk (shut_bool Tryz.underlying4 _) trodAll_mk0)) (by have hh := (trodAll_cons_mk g0 (trodAll_cons_mk g1 (trodAll_cons_mk g2 trodAll_mk0))); simp only [List.append_nil] at hh; exact hh) rfl hb⟩
theorem over : Rows.serverPlaysRow.holds Tryz.pinned (OpenSpec.ofChange Rows.serverPlaysSpec) :=
 OpenClaim.holds_of_wide 3 Tryz.f3 rfl rfl rfl rfl rfl rfl rfl ⟨rfl, rfl, rfl, rfl, rfl⟩ rfl rfl rfl rfl rfl (by kernel_rfl) Tryz.func3 (by kernel_rfl)
  (of_decide_eq_true (by kernel_rfl)) (by unfold Func.isWrapper; first | (rw [if_pos (by decide +kernel)]; kernel_rfl) | (rw [if_neg (by decide +kernel)]; exact ⟨rfl, rfl⟩))
  (fun os started H enc _ => lifted os started H enc)
theorem proved : Rows.ServerPlaysSaid := over
#print axioms proved
end Go.Proofs.YtnhchpiafchdgaaGreat.lawServerPlays
