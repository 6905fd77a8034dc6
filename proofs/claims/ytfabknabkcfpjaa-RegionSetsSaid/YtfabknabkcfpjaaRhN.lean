/- The three rules. -/
import Derived.Test.YtfabknabkcfpjaaRhF
namespace Go.Proofs.Ytfabknabkcfpjaa
open Go.RowKit Go.Shelf
theorem union_rules : Rules 23 #[] (fun a b => a || b) := fun a b W => by
  show Calls Try.prog 23 #[.bool a, .bool b] W _
  cases a <;> cases b <;>
    (go_enter Try.func23, Try.ntmps23
     go_wp2_with fail
     go_ret
     exact ⟨rfl, rfl⟩)
theorem inter_rules : Rules 28 #[] (fun a b => a && b) := fun a b W => by
  show Calls Try.prog 28 #[.bool a, .bool b] W _
  cases a <;> cases b <;>
    (go_enter Try.func28, Try.ntmps28
     go_wp2_with fail
     go_ret
     exact ⟨rfl, rfl⟩)
theorem sub_rules : Rules 29 #[] (fun a b => a && !b) := fun a b W => by
  show Calls Try.prog 29 #[.bool a, .bool b] W _
  cases a <;> cases b <;>
    (go_enter Try.func29, Try.ntmps29
     go_wp2_with fail
     go_ret
     exact ⟨rfl, rfl⟩)
theorem enters_union : ∀ args w, (callFunc 23 args).run Try.prog w = .ok (.enter 23 args) w := enters_of Try.func23 (by kernel_rfl) rfl
theorem enters_inter : ∀ args w, (callFunc 28 args).run Try.prog w = .ok (.enter 28 args) w := enters_of Try.func28 (by kernel_rfl) rfl
theorem enters_sub : ∀ args w, (callFunc 29 args).run Try.prog w = .ok (.enter 29 args) w := enters_of Try.func29 (by kernel_rfl) rfl
end Go.Proofs.Ytfabknabkcfpjaa
