/- The reference's in: is a place in what is asked for? -/
import Derived.Test.YtfabknabkcfpjaaRiC
namespace Go.Proofs.Ytfabknabkcfpjaa
open Go.RowKit Go.Shelf
/-- What is asked for, by its number. -/
def Asks (how : Int) (rl : Bool → Bool → Bool) : Prop := (how = 0 ∧ rl = rlU) ∨ (how = 1 ∧ rl = rlI) ∨ (how = 2 ∧ rl = rlS)
theorem Asks.none {how : Int} {rl : Bool → Bool → Bool} (h : Asks how rl) : rl false false = false := by
  rcases h with ⟨_, rfl⟩ | ⟨_, rfl⟩ | ⟨_, rfl⟩ <;> rfl
theorem rhas_t (v : Value) (rs : List Rc) (x y : Int) (w : World) (hR : RdK encR 4 w v rs) (hn : rs.length ≤ 1073741824) :
    Calls Try.prog 19 #[v, .int .i64 x, .int .i64 y] w fun e w' => e = .returned (.bool (inS rs x y)) ∧ Below w.heap.size w w' := rfHas_c v rs x y w hR hn
set_option maxHeartbeats 4000000 in
theorem in_c (how : Int) (rl : Bool → Bool → Bool) (hh : Asks how rl) (va vb : Value) (la lb : List Rc) (x y : Int) (w : World) (ha : RdK encR 4 w va la) (hb : RdK encR 4 w vb lb) (hla : la.length ≤ 1073741824) (hlb : lb.length ≤ 1073741824) :
    Calls Try.prog 45 #[.int .i64 how, va, vb, .int .i64 x, .int .i64 y] w fun e w' => e = .returned (.bool (rl (inS la x y) (inS lb x y))) ∧ Below w.heap.size w w' := by
  have HA := Lib.hid (rhas_t va la x y w ha hla)
  have HB := Lib.hid (fun (W : World) (h : Below w.heap.size w W) => rhas_t vb lb x y W (hb.below h) hlb)
  clear ha hb hla hlb
  generalize inS la x y = o1 at HA ⊢
  generalize inS lb x y = o2 at HB ⊢
  rcases hh with ⟨rfl, rfl⟩ | ⟨rfl, rfl⟩ | ⟨rfl, rfl⟩
  all_goals
    cases o1 <;> cases o2
    all_goals
      go_enter Try.func45, Try.ntmps45
      go_wp2_with (first
        | (go_at_call 19; (with_reducible refine HA.out.mono ?_); rintro e1 w1 ⟨rfl, hb1⟩; have HB1 := Lib.hid hb1; clear hb1 HA)
        | (go_at_call 19; (with_reducible refine (HB.out _ HB1.out).mono ?_); rintro e2 w2 ⟨rfl, hb2⟩; have HB2 := Lib.hid hb2; clear hb2 HB))
      go_ret
      first
        | exact ⟨rfl, below_then HB1.out HB2.out⟩
        | exact ⟨rfl, HB1.out⟩
end Go.Proofs.Ytfabknabkcfpjaa
