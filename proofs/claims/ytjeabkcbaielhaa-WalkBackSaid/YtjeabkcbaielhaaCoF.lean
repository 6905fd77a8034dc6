/- Visits that are given up by panic, and caught: cons.look. -/
import Derived.Test.YtjeabkcbaielhaaCoE
import Derived.Defers
import Derived.Recover
namespace Go.Proofs.Ytjeabkcbaielhaa.Co
open Go.RowKit
abbrev errnoP (n : Int) : Value := .iface 27 (.int .i64 n)
theorem assert_err_err (n : Int) (w : World) : (Instr.typeAssert (errnoP n) 20 27 true).run Try.prog w = .ok (.tuple #[.int .i64 n, .bool true]) w := by kernel_rfl
theorem assert_err_enough (n : Int) (w : World) : (Instr.typeAssert (errnoP n) 20 97 true).run Try.prog w = .ok (.tuple #[.agg #[], .bool false]) w := by kernel_rfl
theorem assert_enough (w : World) : (Instr.typeAssert (.iface 97 (.agg #[])) 20 97 true).run Try.prog w = .ok (.tuple #[.agg #[], .bool true]) w := by kernel_rfl
theorem eql_err (n : Int) (w : World) : (binOp BinOp.eql 20 (errnoP n) .nilIface).run Try.prog w = .ok (.bool false) w := by kernel_rfl
theorem eql_enough (w : World) : (binOp BinOp.eql 20 (.iface 97 (.agg #[])) .nilIface).run Try.prog w = .ok (.bool false) w := by kernel_rfl
theorem assert_nil (w : World) : (Instr.typeAssert .nilIface 20 97 true).run Try.prog w = .ok (.tuple #[.agg #[], .bool false]) w := by kernel_rfl
theorem eql_nil (w : World) : (binOp BinOp.eql 20 .nilIface .nilIface).run Try.prog w = .ok (.bool true) w := by kernel_rfl
abbrev enoughP : Value := .iface 97 (.agg #[])
theorem catch_errno (p : Addr) (x n : Int) (older : List PanicEntry) (w : World) (hc : w.cell? p = some (.int .i64 x)) (hz : w.frozen? p = false) :
    CallsD Try.prog 95 #[.pointer (some p)] (.panicking ({ v := errnoP n, recovered := false } :: older)) w fun e u' w' =>
      e = .returned (.tuple #[]) ∧ u' = .panicking ({ v := errnoP n, recovered := true } :: older) ∧ w' = w.setCell p (.int .i64 n) := by
  refine callsD_of_wpS Try.func95 rfl fun c₀ cs hu => ?_
  apply wpS_seq
  apply wpS_region
  simp [wpOpsS, go_sem, recoverD, hu, Try.ntmps95, Exit.thenS]
  refine wpS_of_wp ?_
  rw [show (#[Value.pointer (some p)] ++ (Array.replicate 14 undef).setIfInBounds 3 (errnoP n)) = #[.pointer (some p), undef, undef, undef, errnoP n, undef, undef, undef, undef, undef, undef, undef, undef, undef, undef] from rfl]
  have HU := Lib.hid hu
  clear hu
  have e1 := assert_err_err n
  have e2 := assert_err_enough n
  have e3 := eql_err n
  go_wp2_with fail
  have hu := HU.out
  cases c₀
  simp_all [bodyPostS, results, Try.results95]
theorem catch_enough (p : Addr) (older : List PanicEntry) (w : World) :
    CallsD Try.prog 95 #[.pointer (some p)] (.panicking ({ v := enoughP, recovered := false } :: older)) w fun e u' w' =>
      e = .returned (.tuple #[]) ∧ u' = .panicking ({ v := enoughP, recovered := true } :: older) ∧ w' = w := by
  refine callsD_of_wpS Try.func95 rfl fun c₀ cs hu => ?_
  apply wpS_seq
  apply wpS_region
  simp [wpOpsS, go_sem, recoverD, hu, Try.ntmps95, Exit.thenS]
  refine wpS_of_wp ?_
  rw [show (#[Value.pointer (some p)] ++ (Array.replicate 14 undef).setIfInBounds 3 enoughP) = #[.pointer (some p), undef, undef, undef, enoughP, undef, undef, undef, undef, undef, undef, undef, undef, undef, undef] from rfl]
  have HU := Lib.hid hu
  clear hu
  have e1 := assert_enough
  have e3 := eql_enough
  go_wp2_with fail
  have hu := HU.out
  cases c₀
  simp_all [bodyPostS, results, Try.results95]
theorem catch_idle (p : Addr) (w : World) :
    CallsD Try.prog 95 #[.pointer (some p)] .returning w fun e u' w' => e = .returned (.tuple #[]) ∧ u' = .returning ∧ w' = w := by
  refine callsD_of_wpS Try.func95 rfl fun c₀ cs hu => ?_
  apply wpS_seq
  apply wpS_region
  simp [wpOpsS, go_sem, recoverD, hu, Try.ntmps95, Exit.thenS]
  refine wpS_of_wp ?_
  rw [show (#[Value.pointer (some p)] ++ (Array.replicate 14 undef).setIfInBounds 3 .nilIface) = #[.pointer (some p), undef, undef, undef, .nilIface, undef, undef, undef, undef, undef, undef, undef, undef, undef, undef] from rfl]
  have HU := Lib.hid hu
  clear hu
  have e1 := assert_nil
  have e3 := eql_nil
  go_wp2_with fail
  have hu := HU.out
  cases c₀
  simp_all [bodyPostS, results, Try.results95]
theorem Turn.set_new {w w1 : World} {F F' : Nat → Prop} {r o : Nat} (h : Turn F F' w w1) (hr : w.heap.size ≤ r) (u : Value) : Turn F F' w (w1.setCell ⟨r, o, none⟩ u) :=
  ⟨h.os, h.tape, h.output, by simpa [World.setCell] using h.size, fun i hi hn => (Below.heap_setCell w1 ⟨r, o, none⟩ u i (by show i ≠ r; omega)).trans (h.block i hi hn), h.foot⟩
/-- What look tells where a closure gives up with this value. -/
inductive Gives : Value → Int → Prop where
  | errno (n : Int) : Gives (errnoP n) n
  | enough : Gives enoughP 0
section
variable {σ : Type}
set_option maxHeartbeats 1000000 in
theorem look_c (Z : Nat → Prop) (G : σ → Prop) (g : Nat) (cb : Array Value) (f : σ → Con → List Nat → σ × Bool) (pv : Value) (n : Int) (hg : Gives pv n) (J : σ → (Nat → Prop) → World → Prop) (hJ : Jok J)
    (eg : ∀ args w, (callFunc g args).run Try.prog w = .ok (.enter g args) w) (hV : Vis Z G g cb f pv J)
    (x : Con) (s : σ) (F : Nat → Prop) (w : World) (sv : Value) (hgs : Reach f G s (pre x [])) (hs : J s F w) (hK : KV w Z x.ks sv) (hw : x.a.wide) (hZ : ∀ b, Z b → ¬ F b ∧ b < w.heap.size) (hd : ht x ≤ 1000000) :
    Calls Try.prog 56 #[conV x.a sv, .func (.func g) #[] cb] w fun e w' => e = .returned (.int .i64 (if (run f s (pre x [])).2 = true then n else 0)) ∧ ∃ F', J (run f s (pre x [])).1 F' w' ∧ Turn F F' w w' := by
  obtain ⟨p, cap, rfl, hl⟩ := hK.slice
  have hb0 := ((Below.refl w.heap.size w).alloc (Nat.le_refl _) (.cells #[.int .i64 x.a.k, .int .i64 x.a.w, .int .i64 x.a.c, .int .i64 x.a.s, .slice p x.ks.length cap] 24)).alloc (by simp) (.cells #[.int .i64 0] 27)
  have HE := Lib.hid (each_c Z G g cb f pv J hJ eg hV x s F _ _ _ [] hgs (hJ.next _ _ _ _ hs hb0) (hK.next hb0) hw (fun b h => ⟨(hZ b h).1, Nat.lt_of_lt_of_le (hZ b h).2 (by simp; omega)⟩) (WV.nil _ _) (by simpa using hd))
  have HB := Lib.hid hb0
  have HN : Hid (¬ F (w.heap.size + 1)) := fun h => by have := hJ.lt _ _ _ hs _ h; omega
  have hQ := Blk.new (w.alloc (.cells #[.int .i64 x.a.k, .int .i64 x.a.w, .int .i64 x.a.c, .int .i64 x.a.s, .slice p x.ks.length cap] 24)) 27 #[.int .i64 0]
  rw [World.size_alloc] at hQ
  have HQ := Lib.hid hQ
  have HJ := Lib.hid hJ
  have HLT := Lib.hid (hJ.lt _ _ _ hs)
  clear hgs hs hK hb0 hZ hd hw hV hJ hQ
  have hmf : ∀ (fn : Fn) (first cap : Array Value) (w : World), (Instr.makeFunc fn first cap).run Try.prog w = .ok (.func fn first cap) w := fun _ _ _ _ => rfl
  obtain ⟨r, hr⟩ : ∃ r, r = run f s (pre x []) := ⟨_, rfl⟩
  rw [← hr] at HE ⊢
  clear hr
  obtain ⟨sr, st⟩ := r
  cases st
  · rw [show endE false pv = .returned (.tuple #[]) from rfl] at HE
    simp only [Bool.false_eq_true, if_false]
    go_enter_defers Try.func56, Try.ntmps56
    go_wp2_with fail
    refine HE.out.mono ?_
    rintro e w1 ⟨rfl, F', hj, htn⟩
    have hq1 := htn.blk HQ.out HN.out
    have HJ1 := Lib.hid hj
    have HT1 := Lib.hid htn
    have HQ1 := Lib.hid hq1
    clear hj htn HE
    obtain ⟨c0, f0⟩ := hq1.c1
    clear hq1
    go_wp2_with fail
    refine leaves_cons (f := 95) (args := #[.pointer (some ⟨w.heap.size + 1, 0, none⟩)]) (by simp) (by simp [go_sem]) ?_
    refine (catch_idle ⟨w.heap.size + 1, 0, none⟩ _).mono ?_
    rintro e u' w'' ⟨rfl, rfl, rfl⟩
    have HP : ∃ F', J sr F' (w1.setCell ⟨w.heap.size + 1, 0, none⟩ (.int .i64 0)) ∧ Turn F F' w (w1.setCell ⟨w.heap.size + 1, 0, none⟩ (.int .i64 0)) :=
      ⟨F', HJ.out.far _ _ _ _ _ _ HJ1.out (HT1.out.not (by simp) HN.out) HQ1.out, ((Turn.of_below HB.out).trans HT1.out).set_new (by omega) _⟩
    have c1 := (HQ1.out.set_ 0 (.int .i64 0)).at_ (i := 0) rfl
    simp [Leaves, settle, results, Try.results56, go_sem, c1]
    exact HP
  · rw [show endE true pv = .panicked [{ v := pv, recovered := false }] from rfl] at HE
    go_enter_defers Try.func56, Try.ntmps56
    go_wp2_with fail
    refine HE.out.mono ?_
    rintro e w1 ⟨rfl, F', hj, htn⟩
    have hq1 := htn.blk HQ.out HN.out
    have HJ1 := Lib.hid hj
    have HT1 := Lib.hid htn
    have HQ1 := Lib.hid hq1
    clear hj htn HE
    obtain ⟨c0, f0⟩ := hq1.c1
    clear hq1
    refine leaves_cons (f := 95) (args := #[.pointer (some ⟨w.heap.size + 1, 0, none⟩)]) (by simp) (by simp [go_sem]) ?_
    cases hg with
    | errno n =>
      refine (catch_errno ⟨w.heap.size + 1, 0, none⟩ 0 n _ _ c0 f0).mono ?_
      rintro e u' w'' ⟨rfl, rfl, rfl⟩
      have HP : ∃ F', J sr F' (w1.setCell ⟨w.heap.size + 1, 0, none⟩ (.int .i64 n)) ∧ Turn F F' w (w1.setCell ⟨w.heap.size + 1, 0, none⟩ (.int .i64 n)) :=
        ⟨F', HJ.out.far _ _ _ _ _ _ HJ1.out (HT1.out.not (by simp) HN.out) HQ1.out, ((Turn.of_below HB.out).trans HT1.out).set_new (by omega) _⟩
      have c1 := (HQ1.out.set_ 0 (.int .i64 n)).at_ (i := 0) rfl
      simp [Leaves, settle, results, Try.results56, go_sem, c1]
      exact HP
    | enough =>
      refine (catch_enough ⟨w.heap.size + 1, 0, none⟩ _ _).mono ?_
      rintro e u' w'' ⟨rfl, rfl, rfl⟩
      have HP : ∃ F', J sr F' w'' ∧ Turn F F' w w'' := ⟨F', HJ1.out, (Turn.of_below HB.out).trans HT1.out⟩
      simp [Leaves, settle, results, Try.results56, go_sem, c0]
      exact HP
end
end Go.Proofs.Ytjeabkcbaielhaa.Co
