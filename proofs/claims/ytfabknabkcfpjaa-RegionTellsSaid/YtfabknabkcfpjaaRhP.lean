/- Union, Inter, Sub. -/
import Derived.Test.YtfabknabkcfpjaaRhN
import Derived.Test.YtfabknabkcfpjaaRhO
namespace Go.Proofs.Ytfabknabkcfpjaa
open Go.RowKit Go.Shelf
theorem rgUnion_c (va vb : Value) (la lb : List Rc) (w : World) (ha : RdK encR 4 w va la) (hb : RdK encR 4 w vb lb) (hla : la.length ≤ 1152921504606846976) (hlb : lb.length ≤ 1152921504606846976) :
    Calls Try.prog 11 #[va, vb] w fun e w' => CmbOut (fun a b => a || b) la lb w w' e ∧ Below w.heap.size w w' := by
  have HC := Lib.hid (combine_c va vb la lb 23 #[] (fun a b => a || b) w enters_union union_rules ha hb hla hlb)
  clear ha hb
  go_enter Try.func11, Try.ntmps11
  go_wp2_with fail
  refine HC.out.mono ?_
  rintro e1 w1 ⟨h1, h2⟩
  have H1 := Lib.hid h1
  have H2 := Lib.hid h2
  clear h1 h2 HC
  rcases H1.out with ⟨_, rfl⟩ | ⟨_, ds, ys, _, _, _, _, ⟨_, rfl⟩ | ⟨_, v, rfl, _⟩⟩
  · go_wp2_with fail
    refine bodyPost_ret (v := .tuple #[.slice none 0 0, .int .i64 (faultI la lb)]) (by simp [results, Try.results11, go_sem]) rfl ?_
    exact ⟨H1.out, H2.out⟩
  · go_wp2_with fail
    refine bodyPost_ret (v := .tuple #[.slice none 0 0, .int .i64 2]) (by simp [results, Try.results11, go_sem]) rfl ?_
    exact ⟨H1.out, H2.out⟩
  · go_wp2_with fail
    refine bodyPost_ret (v := .tuple #[v, .int .i64 0]) (by simp [results, Try.results11, go_sem]) rfl ?_
    exact ⟨H1.out, H2.out⟩
theorem rgInter_c (va vb : Value) (la lb : List Rc) (w : World) (ha : RdK encR 4 w va la) (hb : RdK encR 4 w vb lb) (hla : la.length ≤ 1152921504606846976) (hlb : lb.length ≤ 1152921504606846976) :
    Calls Try.prog 13 #[va, vb] w fun e w' => CmbOut (fun a b => a && b) la lb w w' e ∧ Below w.heap.size w w' := by
  have HC := Lib.hid (combine_c va vb la lb 28 #[] (fun a b => a && b) w enters_inter inter_rules ha hb hla hlb)
  clear ha hb
  go_enter Try.func13, Try.ntmps13
  go_wp2_with fail
  refine HC.out.mono ?_
  rintro e1 w1 ⟨h1, h2⟩
  have H1 := Lib.hid h1
  have H2 := Lib.hid h2
  clear h1 h2 HC
  rcases H1.out with ⟨_, rfl⟩ | ⟨_, ds, ys, _, _, _, _, ⟨_, rfl⟩ | ⟨_, v, rfl, _⟩⟩
  · go_wp2_with fail
    refine bodyPost_ret (v := .tuple #[.slice none 0 0, .int .i64 (faultI la lb)]) (by simp [results, Try.results13, go_sem]) rfl ?_
    exact ⟨H1.out, H2.out⟩
  · go_wp2_with fail
    refine bodyPost_ret (v := .tuple #[.slice none 0 0, .int .i64 2]) (by simp [results, Try.results13, go_sem]) rfl ?_
    exact ⟨H1.out, H2.out⟩
  · go_wp2_with fail
    refine bodyPost_ret (v := .tuple #[v, .int .i64 0]) (by simp [results, Try.results13, go_sem]) rfl ?_
    exact ⟨H1.out, H2.out⟩
theorem rgSub_c (va vb : Value) (la lb : List Rc) (w : World) (ha : RdK encR 4 w va la) (hb : RdK encR 4 w vb lb) (hla : la.length ≤ 1152921504606846976) (hlb : lb.length ≤ 1152921504606846976) :
    Calls Try.prog 14 #[va, vb] w fun e w' => CmbOut (fun a b => a && !b) la lb w w' e ∧ Below w.heap.size w w' := by
  have HC := Lib.hid (combine_c va vb la lb 29 #[] (fun a b => a && !b) w enters_sub sub_rules ha hb hla hlb)
  clear ha hb
  go_enter Try.func14, Try.ntmps14
  go_wp2_with fail
  refine HC.out.mono ?_
  rintro e1 w1 ⟨h1, h2⟩
  have H1 := Lib.hid h1
  have H2 := Lib.hid h2
  clear h1 h2 HC
  rcases H1.out with ⟨_, rfl⟩ | ⟨_, ds, ys, _, _, _, _, ⟨_, rfl⟩ | ⟨_, v, rfl, _⟩⟩
  · go_wp2_with fail
    refine bodyPost_ret (v := .tuple #[.slice none 0 0, .int .i64 (faultI la lb)]) (by simp [results, Try.results14, go_sem]) rfl ?_
    exact ⟨H1.out, H2.out⟩
  · go_wp2_with fail
    refine bodyPost_ret (v := .tuple #[.slice none 0 0, .int .i64 2]) (by simp [results, Try.results14, go_sem]) rfl ?_
    exact ⟨H1.out, H2.out⟩
  · go_wp2_with fail
    refine bodyPost_ret (v := .tuple #[v, .int .i64 0]) (by simp [results, Try.results14, go_sem]) rfl ?_
    exact ⟨H1.out, H2.out⟩
end Go.Proofs.Ytfabknabkcfpjaa
