/- What a step turns in memory; ways as they lie; the visits of each (cons.each), whatever the closure. -/
import Derived.Test.YtjeabkcbaielhaaCoD
import Derived.Deep.RegionLawGrows
import Derived.Deep.AppendLies
namespace Go.Proofs.Ytjeabkcbaielhaa.Co
open Go.RowKit
/-- What a call turns: its own blocks, and new ones. -/
structure Turn (F F' : Nat → Prop) (w w' : World) : Prop where
  os : w'.os = w.os
  tape : w'.tape = w.tape
  output : w'.output = w.output
  size : w.heap.size ≤ w'.heap.size
  block : ∀ i, i < w.heap.size → ¬ F i → w'.heap[i]? = w.heap[i]?
  foot : ∀ i, F' i → F i ∨ w.heap.size ≤ i
section
variable {w w' w1 : World} {F F' F'' : Nat → Prop}
theorem Turn.trans {a b c : World} (h : Turn F F' a b) (k : Turn F' F'' b c) : Turn F F'' a c := by
  refine ⟨k.os.trans h.os, k.tape.trans h.tape, k.output.trans h.output, Nat.le_trans h.size k.size, fun i hi hn => ?_, fun i hi => ?_⟩
  · refine (k.block i (Nat.lt_of_lt_of_le hi h.size) fun hf => ?_).trans (h.block i hi hn)
    rcases h.foot i hf with h1 | h1
    · exact hn h1
    · omega
  · rcases k.foot i hi with h1 | h1
    · exact h.foot i h1
    · exact .inr (Nat.le_trans h.size h1)
theorem Turn.of_below (h : Below w.heap.size w w') : Turn F F w w' := ⟨h.os, h.tape, h.output, h.size, fun i hi _ => h.block i hi, fun _ hi => .inl hi⟩
theorem Turn.blk {g : Nat} {T : TypeId} {cs : Array Value} (h : Turn F F' w w') (hb : Blk w g T cs) (hn : ¬ F g) : Blk w' g T cs := (h.block g hb.lt hn).trans hb
theorem Turn.not {g : Nat} (h : Turn F F' w w') (hg : g < w.heap.size) (hn : ¬ F g) : ¬ F' g := fun hf => by
  rcases h.foot g hf with h1 | h1
  · exact hn h1
  · omega
theorem Turn.below {B : Nat} {a : World} (k : Below B a w) (h : Turn F F' w w') (hB : B ≤ w.heap.size) (hF : ∀ i, F i → B ≤ i) : Below B a w' :=
  k.trans ⟨h.os, h.tape, h.output, h.size, fun i hi => h.block i (by omega) (fun hf => by have := hF i hf; omega)⟩
end
/-- A way as it lies: a row of ints in one block, of which Y holds. -/
def WV (w : World) (Y : Nat → Prop) (way : List Nat) (v : Value) : Prop :=
  ∃ p c, v = .slice p way.length c ∧ way.length ≤ 1152921504606846976 ∧ way.length ≤ c ∧ (p = none → c = 0) ∧ (∀ a, p = some a → ∃ b, a = ⟨b, 0, none⟩ ∧ b < w.heap.size ∧ Y b ∧ ∃ cs, w.heap[b]? = some (.cells cs 3 (0, 0))) ∧ ∀ (j i : Nat), way[j]? = some i → ∃ b, p = some ⟨b, 0, none⟩ ∧ w.cell? ⟨b, j, none⟩ = some (.int .i64 (i : Int))
section
variable {w w' : World} {Y Y' : Nat → Prop} {way : List Nat} {v : Value}
theorem WV.same (h : WV w Y way v) (hs : w.heap.size ≤ w'.heap.size) (hb : ∀ b, Y b → b < w.heap.size → w'.heap[b]? = w.heap[b]? ∧ Y' b) : WV w' Y' way v := by
  obtain ⟨p, c, h1, h2, h2', h3, h4, h5⟩ := h
  refine ⟨p, c, h1, h2, h2', h3, fun a ha => ?_, fun j i hi => ?_⟩
  · obtain ⟨b, e, h6, h7, cs, h8⟩ := h4 a ha
    exact ⟨b, e, Nat.lt_of_lt_of_le h6 hs, (hb b h7 h6).2, cs, (hb b h7 h6).1.trans h8⟩
  · obtain ⟨b, e, h6⟩ := h5 j i hi
    obtain ⟨b', e', h7, h8, -⟩ := h4 _ e
    injection e' with e'
    subst e'
    exact ⟨b, e, (cell_same (hb b h8 h7).1 j).trans h6⟩
theorem WV.next (h : WV w Y way v) (hb : Below w.heap.size w w') : WV w' Y way v := h.same hb.size fun b hy hl => ⟨hb.block b hl, hy⟩
theorem WV.turn {F F' : Nat → Prop} (h : WV w (fun b => ¬ F b) way v) (ht : Turn F F' w w') : WV w' (fun b => ¬ F' b) way v := h.same ht.size fun b hy hl => ⟨ht.block b hl hy, ht.not hl hy⟩
theorem WV.nil (w : World) (Y : Nat → Prop) : WV w Y [] (.slice none 0 0) := ⟨none, 0, rfl, by simp, by simp, fun _ => rfl, (fun a h => by cases h), (fun j i h => by simp at h)⟩
theorem WV.slice (h : WV w Y way v) : ∃ p c, v = .slice p way.length c := by obtain ⟨p, c, h, _⟩ := h; exact ⟨p, c, h⟩
end
theorem intInfo : (Try.prog.info? 3).map (fun i => (i.zero, i.size, i.bytes)) = some (some (.int .i64 0), 1, 8) := by kernel_rfl
theorem int_info : ∃ i, Try.prog.info? 3 = some i ∧ i.zero = some (.int .i64 0) ∧ i.size = 1 ∧ i.bytes = 8 := by
  have h := intInfo
  cases hi : Try.prog.info? 3 with
  | none => rw [hi] at h; cases h
  | some i => rw [hi] at h; simp at h; exact ⟨i, rfl, h.1, h.2.1, h.2.2⟩
theorem below_of_grown {a b : World} (h : a.grownBy b none) : Below a.heap.size a b := ⟨h.os, h.tape, h.output, h.size, fun k hk => h.block k hk (by simp)⟩
abbrev wayV (way : List Nat) : List Value := way.map fun (i : Nat) => .int .i64 (i : Int)
theorem WV.of_row {w : World} {B n : Nat} {Y : Nat → Prop} {way : List Nat} {v : Value} (h : w.ownsRow B 3 1 v n (wayV way)) (hn : n = way.length) (hl : 0 < way.length) (hm : way.length ≤ 1152921504606846976) (hy : ∀ g, B ≤ g → Y g) : WV w Y way v := by
  subst hn
  obtain ⟨g, c, hv, h1, h2⟩ := h.form hl
  obtain ⟨hc, hcs⟩ : way.length ≤ c ∧ ∃ cs, w.heap[g]? = some (.cells cs 3 (0, 0)) := by
    rcases h.2 with ⟨h3, h4⟩ | ⟨g', c', cur, h3, _, h5, h4, _⟩
    · omega
    · rw [hv] at h3; obtain ⟨e1, -, rfl⟩ := Value.slice.inj h3; have e1 := Option.some.inj e1; injection e1 with e1; subst e1; exact ⟨h4, cur, h5⟩
  subst hv
  refine ⟨_, c, rfl, hm, hc, (fun e => by cases e), (fun a e => by injection e with e; exact ⟨g, e.symm, h2, hy g h1, hcs⟩), fun j i hi => ⟨g, rfl, ?_⟩⟩
  have := h.cells (g := g) rfl j (.int .i64 (i : Int)) (by simp [hi])
  rwa [show (⟨g, 0, none⟩ : Addr).add j = ⟨g, j, none⟩ by unfold Addr.add; split <;> simp_all] at this
mutual
/-- How deep a container is. -/
def ht : Con → Nat
  | .mk _ ks => htL ks
def htL : List Con → Nat
  | [] => 0
  | x :: r => max (ht x + 1) (htL r)
end
theorem htL_le {ks : List Con} {k : Nat} {x : Con} (h : ks[k]? = some x) : ht x + 1 ≤ htL ks := by
  induction ks generalizing k with
  | nil => simp at h
  | cons y r ih =>
    simp only [htL]
    cases k with
    | zero => simp at h; subst h; omega
    | succ k => have := ih (k := k) (by simpa using h); omega
theorem KV.turn {w w' : World} {Z F F' : Nat → Prop} {ks : List Con} {v : Value} (h : KV w Z ks v) (hz : ∀ b, Z b → ¬ F b) (ht : Turn F F' w w') : KV w' Z ks v := h.same (fun _ h => h) ht.size fun b hb hl => ht.block b hl (hz b hb)
/-- A call ends: it returns nothing, or gives up by panic. -/
def endE (st : Bool) (pv : Value) : Ending := if st = true then .panicked [{ v := pv, recovered := false }] else .returned (.tuple #[])
section
variable {σ : Type}
/-- What a closure does at a container, whatever lies beside its own memory. -/
def Vis (Z : Nat → Prop) (G : σ → Prop) (g : Nat) (cb : Array Value) (f : σ → Con → List Nat → σ × Bool) (pv : Value) (J : σ → (Nat → Prop) → World → Prop) : Prop :=
  ∀ (s : σ) (F : Nat → Prop) (w : World) (x : Con) (sv wv : Value) (way : List Nat), G s → J s F w → KV w Z x.ks sv → x.a.wide → (∀ b, Z b → ¬ F b ∧ b < w.heap.size) → WV w (fun b => ¬ F b) way wv → way.length ≤ 1000000 →
    Calls Try.prog g (#[conV x.a sv, wv] ++ cb) w fun e w' => e = endE (f s x way).2 pv ∧ ∃ F', J (f s x way).1 F' w' ∧ Turn F F' w w'
theorem run_G {f : σ → Con → List Nat → σ × Bool} {G : σ → Prop} (hG : ∀ s x way, G s → (f s x way).2 = false → G (f s x way).1) : ∀ (l : List (Con × List Nat)) (s : σ), G s → (run f s l).2 = false → G (run f s l).1 := by
  intro l
  induction l with
  | nil => intro s h _; exact h
  | cons x r ih =>
    obtain ⟨c, w⟩ := x
    intro s h h2
    simp only [run] at h2 ⊢
    split at h2
    · cases h2
    · next hn => rw [if_neg hn]; exact ih _ (hG s c w h (by simpa using hn)) h2
/-- What holds of the states at which a closure is called. -/
def Reach (f : σ → Con → List Nat → σ × Bool) (G : σ → Prop) (s : σ) (L : List (Con × List Nat)) : Prop := ∀ l1 l2, L = l1 ++ l2 → (run f s l1).2 = false → G (run f s l1).1
theorem reach_of {f : σ → Con → List Nat → σ × Bool} {G : σ → Prop} (hG : ∀ s x way, G s → (f s x way).2 = false → G (f s x way).1) {s : σ} (h : G s) (L : List (Con × List Nat)) : Reach f G s L := fun l1 _ _ h2 => run_G hG l1 s h h2
theorem preL_split {ks : List Con} {k : Nat} {x : Con} (h : ks[k]? = some x) (w : List Nat) : ∃ l, preL ks w 0 = preL (ks.take k) w 0 ++ (pre x (w ++ [k]) ++ l) := by
  refine ⟨preL (ks.drop (k + 1)) w (0 + (ks.take (k + 1)).length), ?_⟩
  conv => lhs; rw [← List.take_append_drop (k + 1) ks, preL_append, preL_take h]
  rw [List.append_assoc]
theorem reach_kid {f : σ → Con → List Nat → σ × Bool} {G : σ → Prop} {s s1 : σ} {a : D} {ks : List Con} {way : List Nat} (h : Reach f G s (pre (.mk a ks) way)) (hs : f s (.mk a ks) way = (s1, false)) {k : Nat} {x : Con} (hx : ks[k]? = some x)
    (hn : (run f s1 (preL (ks.take k) way 0)).2 = false) : Reach f G (run f s1 (preL (ks.take k) way 0)).1 (pre x (way ++ [k])) := fun l1 l2 e h2 => by
  obtain ⟨l, hl⟩ := preL_split hx way
  have hr : run f s ((.mk a ks, way) :: (preL (ks.take k) way 0 ++ l1)) = run f (run f s1 (preL (ks.take k) way 0)).1 l1 := by
    simp only [run, hs, Bool.false_eq_true, if_false]
    rw [run_append, if_neg (by simp [hn])]
  have := h ((.mk a ks, way) :: (preL (ks.take k) way 0 ++ l1)) (l2 ++ l) (by simp only [pre]; rw [hl, e]; simp) (by rw [hr]; exact h2)
  rwa [hr] at this
/-- A closure's memory as it stays where memory grows. -/
structure Jok (J : σ → (Nat → Prop) → World → Prop) : Prop where
  next : ∀ s F w w', J s F w → Below w.heap.size w w' → J s F w'
  lt : ∀ s F w, J s F w → ∀ b, F b → b < w.heap.size
  far : ∀ s F w r u v, J s F w → ¬ F r → Blk w r 27 #[u] → J s F (w.setCell ⟨r, 0, none⟩ v)
/-- The visits so far: none has given up. -/
def Vs (f : σ → Con → List Nat → σ × Bool) (J : σ → (Nat → Prop) → World → Prop) (s : σ) (way : List Nat) (ks : List Con) (F : Nat → Prop) (w : World) (k : Nat) (wr : World) : Prop :=
  (run f s (preL (ks.take k) way 0)).2 = false ∧ ∃ F', J (run f s (preL (ks.take k) way 0)).1 F' wr ∧ Turn F F' w wr
set_option maxHeartbeats 1000000 in
theorem each_c (Z : Nat → Prop) (G : σ → Prop) (g : Nat) (cb : Array Value) (f : σ → Con → List Nat → σ × Bool) (pv : Value) (J : σ → (Nat → Prop) → World → Prop) (hJ : Jok J)
    (eg : ∀ args w, (callFunc g args).run Try.prog w = .ok (.enter g args) w) (hV : Vis Z G g cb f pv J) :
    ∀ (x : Con) (s : σ) (F : Nat → Prop) (w : World) (sv wv : Value) (way : List Nat), Reach f G s (pre x way) → J s F w → KV w Z x.ks sv → x.a.wide → (∀ b, Z b → ¬ F b ∧ b < w.heap.size) → WV w (fun b => ¬ F b) way wv → way.length + ht x ≤ 1000000 →
    Calls Try.prog 96 #[conV x.a sv, wv, .func (.func g) #[] cb] w fun e w' => e = endE (run f s (pre x way)).2 pv ∧ ∃ F', J (run f s (pre x way)).1 F' w' ∧ Turn F F' w w' := by
  intro x
  induction x using Tr.ind with
  | h a ks ih =>
    intro s F w sv wv way hre hs hK hw hZ hWV hlen
    have hgs : G s := hre [] _ rfl rfl
    obtain ⟨p, cap, rfl, hl⟩ : ∃ p cap, sv = .slice p ks.length cap ∧ ks.length ≤ 1152921504606846976 := hK.slice
    have hK : KV w Z ks (.slice p ks.length cap) := hK
    obtain ⟨q, c, rfl, hcap⟩ : ∃ q c, wv = .slice q way.length c ∧ way.length ≤ c := by obtain ⟨q, c, h1, _, h2, _⟩ := hWV; exact ⟨q, c, h1, h2⟩
    show Calls Try.prog 96 #[.agg #[.int .i64 a.k, .int .i64 a.w, .int .i64 a.c, .int .i64 a.s, .slice p ks.length cap], .slice q way.length c, .func (.func g) #[] cb] w _
    have hb0 := (Below.refl w.heap.size w).alloc (Nat.le_refl _) (.cells #[.int .i64 a.k, .int .i64 a.w, .int .i64 a.c, .int .i64 a.s, .slice p ks.length cap] 24)
    have hQ := Blk.new w 24 #[.int .i64 a.k, .int .i64 a.w, .int .i64 a.c, .int .i64 a.s, .slice p ks.length cap]
    have hFn : ¬ F w.heap.size := fun h => Nat.lt_irrefl _ (hJ.lt _ _ _ hs _ h)
    have HV := Lib.hid (hV s F _ (.mk a ks) (.slice p ks.length cap) _ way hgs (hJ.next _ _ _ _ hs hb0) (hK.next hb0) hw (fun b h => ⟨(hZ b h).1, Nat.lt_of_lt_of_le (hZ b h).2 (by simp)⟩) (hWV.next hb0) (by omega))
    cases hst : (f s (.mk a ks) way).2
    · obtain ⟨s1, hs1⟩ : ∃ s1, f s (.mk a ks) way = (s1, false) := ⟨_, Prod.ext rfl hst⟩
      rw [hs1, show endE (s1, false).2 pv = .returned (.tuple #[]) from rfl] at HV
      have HR := Lib.hid (show run f s (pre (.mk a ks) way) = run f s1 (preL ks way 0) by simp [pre, run, hs1])
      have HG := Lib.hid (fun (k : Nat) (x : Con) (hx : ks[k]? = some x) (h : (run f s1 (preL (ks.take k) way 0)).2 = false) => reach_kid hre hs1 hx h)
      obtain ⟨m, hm⟩ : ∃ m, m = ks.length := ⟨_, rfl⟩
      obtain ⟨n, hn⟩ : ∃ n, n = way.length := ⟨_, rfl⟩
      rw [← hm] at hl hK hb0 hQ HV ⊢
      rw [← hn] at hWV HV hcap ⊢
      have HM := Lib.hid hm
      have HN := Lib.hid hn
      have HK := Lib.hid (hK.next hb0)
      have HW := Lib.hid (hWV.next hb0)
      have IH := Lib.hid ih
      have HZ := Lib.hid hZ
      have HFn := Lib.hid hFn
      have HJ := Lib.hid hJ
      have HQ := Lib.hid hQ
      have HB := Lib.hid hb0
      have HL := Lib.hid hlen
      clear hst hs1 hs hgs hre hK hWV ih hV hm hn hZ hFn hJ hQ hb0 hlen
      go_enter Try.func96, Try.ntmps96
      go_wp2_with fail
      refine HV.out.mono ?_
      rintro e w1 ⟨rfl, F', hj, htn⟩
      have HT := Lib.hid (show Vs f J s1 way ks F (w.alloc (.cells #[.int .i64 a.k, .int .i64 a.w, .int .i64 a.c, .int .i64 a.s, .slice p m cap] 24)) 0 w1 from ⟨rfl, F', hj, htn⟩)
      obtain ⟨q4, qf⟩ : w1.cell? ⟨w.heap.size, 4, none⟩ = some (.slice p m cap) ∧ w1.frozen? ⟨w.heap.size, 4, none⟩ = false := ⟨(htn.blk HQ.out HFn.out).at_ (i := 4) rfl, (htn.blk HQ.out HFn.out).frozen 4⟩
      clear hj htn HV
      go_wp2_with fail
      clear q4 qf
      go_loopw [15] (fun z wr => ∃ k : Nat, k ≤ m ∧ z = .int .i64 k ∧ Vs f J s1 way ks F (w.alloc (.cells #[.int .i64 a.k, .int .i64 a.w, .int .i64 a.c, .int .i64 a.s, .slice p m cap] 24)) k wr) (fun z _ => m - (intOf z).toNat)
      case atStart => exact ⟨0, Nat.zero_le _, rfl, HT.out⟩
      case round =>
        clear HT
        obtain ⟨k, hk, rfl, hv⟩ := hrel
        obtain ⟨hv2, F2, hj, htn⟩ : Vs f J s1 way ks F (w.alloc (.cells #[.int .i64 a.k, .int .i64 a.w, .int .i64 a.c, .int .i64 a.s, .slice p m cap] 24)) k wr := hv
        by_cases hlt : k < m
        · obtain ⟨x, hx⟩ : ∃ x, ks[k]? = some x := ⟨_, List.getElem?_eq_getElem (by rw [← HM.out]; exact hlt)⟩
          have hK1 := HK.out.turn (fun b h => (HZ.out b h).1) htn
          have hW1 := HW.out.turn htn
          obtain ⟨-, b, o, s', rfl, hZb, hb1, hxw, hk1, c0, c1, c2, c3, c4⟩ := hK1.kid hx
          obtain ⟨p1, cp1, rfl, -⟩ := hk1.slice
          have hx1 := HL.out
          have hx2 : x.a.wide := hxw
          have hh : way.length + 1 + ht x ≤ 1000000 := by have := htL_le hx; simp only [ht] at hx1; omega
          have hN1 : (way ++ [k]).length = n + 1 := by rw [List.length_append, HN.out]; rfl
          have HI := Lib.hid (fun (W : World) (v' : Value) (hB : Below wr.heap.size wr W) (hw' : WV W (fun b => ¬ F2 b) (way ++ [k]) v') => IH.out x (List.mem_of_getElem? hx) _ F2 W _ v' (way ++ [k]) (HG.out k x hx hv2) (HJ.out.next _ _ _ _ hj hB) (hk1.next hB) hxw (fun b hb => ⟨htn.not (Nat.lt_of_lt_of_le (HZ.out b hb).2 (by simp)) (HZ.out b hb).1, Nat.lt_of_lt_of_le (Nat.lt_of_lt_of_le (HZ.out b hb).2 (by simp)) (Nat.le_trans htn.size hB.size)⟩) hw' (by rw [hN1, HN.out]; exact hh))
          have HX := Lib.hid hx
          have HW1 := Lib.hid hW1
          have HTN := Lib.hid htn
          have HJ2 := Lib.hid hj
          have HV2 := Lib.hid hv2
          have hnl := HL.out
          rw [← HN.out] at hnl
          have hi0 : (0 : Int) ≤ (n : Int) := by omega
          clear hx hK1 hW1 hk1 hj htn hv2 hx1 hx2 hh hN1
          obtain ⟨xa, xk⟩ := x
          simp only [Tr.a_mk, Tr.ks_mk] at c0 c1 c2 c3 c4 HI
          obtain ⟨nk, hnk⟩ : ∃ nk, nk = xk.length := ⟨_, rfl⟩
          rw [← hnk] at c4 HI
          have HNK := Lib.hid hnk
          clear hnk
          go_upto_region 5 with fail
          clear c0 c1 c2 c3 c4
          have HQ2 := Lib.hid (Blk.new wr 24 #[.int .i64 xa.k, .int .i64 xa.w, .int .i64 xa.c, .int .i64 xa.s, .slice p1 nk cp1])
          have S0 := And.intro (HQ2.out.at_ (i := 0) rfl) (And.intro (HQ2.out.at_ (i := 1) rfl) (And.intro (HQ2.out.at_ (i := 2) rfl) (And.intro (HQ2.out.at_ (i := 3) rfl) (HQ2.out.at_ (i := 4) rfl))))
          obtain ⟨i0, hi0, hz0, hz1, hz2⟩ := int_info
          obtain ⟨A, hA⟩ : ∃ A, A = (wr.alloc (.cells #[.int .i64 xa.k, .int .i64 xa.w, .int .i64 xa.c, .int .i64 xa.s, .slice p1 nk cp1] 24)).alloc (.cells #[.int .i64 k] 3) := ⟨_, rfl⟩
          have HBA : Hid (Below wr.heap.size wr A) := by rw [hA]; exact ((Below.refl _ _).alloc (Nat.le_refl _) _).alloc (by simp) _
          have HQA : Hid (Blk A wr.heap.size 24 #[.int .i64 xa.k, .int .i64 xa.w, .int .i64 xa.c, .int .i64 xa.s, .slice p1 nk cp1]) := by rw [hA]; exact HQ2.out.alloc _
          have HCA : Hid (∀ j u, [Value.int .i64 (k : Int)][j]? = some u → A.drew.cell? ((⟨wr.heap.size + 1, 0, none⟩ : Addr).add j) = some u) := by rw [hA]; have h := (Blk.new (wr.alloc (.cells #[.int .i64 xa.k, .int .i64 xa.w, .int .i64 xa.c, .int .i64 xa.s, .slice p1 nk cp1] 24)) 3 #[.int .i64 (k : Int)]).raw; rw [World.size_alloc] at h; exact World.news_of_block h
          have HNO : Hid (q = none → n = 0 ∧ n = 0) := fun h => by
            obtain ⟨q', c', e, _, _, h3, _⟩ := HW1.out
            obtain ⟨rfl, -, rfl⟩ := Value.slice.inj e
            have := h3 h; omega
          have HLO : Hid ((wayV way).length = n * 1) := by show (wayV way).length = n * 1; rw [List.length_map, Nat.mul_one]; exact HN.out.symm
          have HWO : Hid (∀ b, q = some b → ∀ j u, (wayV way)[j]? = some u → A.drew.cell? (b.add j) = some u) := fun b hb j u hu => by
            obtain ⟨q', c', e, _, _, _, h4, h5⟩ := HW1.out.next HBA.out
            obtain ⟨rfl, -, rfl⟩ := Value.slice.inj e
            rw [List.getElem?_map] at hu
            cases hw : way[j]? with
            | none => rw [hw] at hu; cases hu
            | some i =>
              rw [hw] at hu; have hu := Option.some.inj hu; subst hu
              obtain ⟨b', e, h6⟩ := h5 j i hw
              rw [hb] at e; have e := Option.some.inj e; subst e
              rw [show (⟨b', 0, none⟩ : Addr).add j = ⟨b', j, none⟩ by unfold Addr.add; split <;> simp_all]; exact h6
          have HWY : Hid (∀ (v2 : Value) (A2 : World), A2.ownsRow A.drew.heap.size 3 1 v2 (n + 1) (wayV way ++ [.int .i64 (k : Int)]) → WV A2 (fun b => ¬ F2 b) (way ++ [k]) v2) := fun v2 A2 h => by
            have e : wayV way ++ [Value.int .i64 (k : Int)] = wayV (way ++ [k]) := by simp
            rw [e] at h
            refine WV.of_row h (by rw [List.length_append, ← HN.out]; rfl) (by simp) (by rw [List.length_append, ← HN.out]; simp; omega) fun g hg hf => ?_
            have h1 := HJ.out.lt _ _ _ HJ2.out g hf
            have h2 := HBA.out.size
            have h3 : A.heap.size ≤ g := hg
            omega
          obtain ⟨r2, hr2⟩ : ∃ r2, r2 = run f (run f s1 (preL (ks.take k) way 0)).1 (pre (.mk xa xk) (way ++ [k])) := ⟨_, rfl⟩
          have HNX := Lib.hid (run_take HX.out way s1 HV2.out)
          rw [← hr2] at HNX HI
          clear hr2
          obtain ⟨sr, st⟩ := r2
          cases st
          · rw [show endE ((sr, false) : σ × Bool).2 pv = .returned (.tuple #[]) from rfl] at HI
            refine wp_region_held_drew (S := fun wx => wx.cell? ⟨wr.heap.size, 0, none⟩ = some (.int .i64 xa.k) ∧ wx.cell? ⟨wr.heap.size, 1, none⟩ = some (.int .i64 xa.w) ∧ wx.cell? ⟨wr.heap.size, 2, none⟩ = some (.int .i64 xa.c) ∧ wx.cell? ⟨wr.heap.size, 3, none⟩ = some (.int .i64 xa.s) ∧ wx.cell? ⟨wr.heap.size, 4, none⟩ = some (.slice p1 nk cp1)) (by kernel_rfl) (by exact S0) (fun hHeld => ?_)
            refine wpAnyH_take (i := 0) (v := ?v0) rfl (by kernel_rfl) (by kernel_rfl) (by kernel_rfl) (fun _ _ _ h => h) (Or.inl ⟨by kernel_rfl, ?y0⟩) (by assumption) ?r0
            case y0 => (intro wq hSw; (try dsimp only at hSw); go_simp; (try with_reducible rfl))
            (try simp only [Act.put, List.getElem_toArray, List.getElem_cons_zero, List.setIfInBounds_toArray, List.set_cons_zero, List.set_cons_succ])
            refine wpAnyH_take (i := 1) (v := ?v1) rfl (by kernel_rfl) (by kernel_rfl) (by kernel_rfl) (fun _ _ _ h => h) (Or.inl ⟨by kernel_rfl, ?y1⟩) (by assumption) ?r1
            case y1 => (intro wq hSw; (try dsimp only at hSw); go_simp; (try with_reducible rfl))
            (try simp only [Act.put, List.getElem_toArray, List.getElem_cons_succ, List.getElem_cons_zero, List.setIfInBounds_toArray, List.set_cons_zero, List.set_cons_succ])
            refine wpAnyH_take (i := 2) (v := ?v2) rfl (by kernel_rfl) (by kernel_rfl) (by kernel_rfl) (fun _ _ _ h => h) (Or.inl ⟨by kernel_rfl, ?y2⟩) (by assumption) ?r2
            case y2 => (intro wq hSw; (try dsimp only at hSw); go_simp; (try with_reducible rfl))
            (try simp only [Act.put, List.getElem_toArray, List.getElem_cons_succ, List.getElem_cons_zero, List.setIfInBounds_toArray, List.set_cons_zero, List.set_cons_succ])
            refine wpAnyH_take (i := 3) (v := ?v3) rfl (by kernel_rfl) (by kernel_rfl) (by kernel_rfl) (fun _ _ _ h => h) (Or.inl ⟨by kernel_rfl, ?y3⟩) (by assumption) ?r3
            case y3 => (intro wq hSw; (try dsimp only at hSw); go_simp; (try with_reducible rfl))
            (try simp only [Act.put, List.getElem_toArray, List.getElem_cons_succ, List.getElem_cons_zero, List.setIfInBounds_toArray, List.set_cons_zero, List.set_cons_succ])
            refine wpAnyH_take (i := 4) (v := ?v4) rfl (by kernel_rfl) (by kernel_rfl) (by kernel_rfl) (fun _ _ _ h => h) (Or.inl ⟨by kernel_rfl, ?y4⟩) (by assumption) ?r4
            case y4 => (intro wq hSw; (try dsimp only at hSw); go_simp; (try with_reducible rfl))
            (try simp only [Act.put, List.getElem_toArray, List.getElem_cons_succ, List.getElem_cons_zero, List.setIfInBounds_toArray, List.set_cons_zero, List.set_cons_succ])
            refine wpAnyH_take (i := 5) (v := ?v5) rfl (by kernel_rfl) (by kernel_rfl) (by kernel_rfl) (fun _ _ _ h => h) (Or.inl ⟨by kernel_rfl, ?y5⟩) (by assumption) ?r5
            case y5 => (intro wq hSw; (try dsimp only at hSw); go_simp; (try with_reducible rfl))
            (try simp only [Act.put, List.getElem_toArray, List.getElem_cons_succ, List.getElem_cons_zero, List.setIfInBounds_toArray, List.set_cons_zero, List.set_cons_succ])
            refine wpAnyH_take (i := 6) (v := ?v6) rfl (by kernel_rfl) (by kernel_rfl) (by kernel_rfl) (fun _ _ _ h => h) (Or.inl ⟨by kernel_rfl, ?y6⟩) (by assumption) ?r6
            case y6 => (intro wq hSw; (try dsimp only at hSw); go_simp; (try with_reducible rfl))
            (try simp only [Act.put, List.getElem_toArray, List.getElem_cons_succ, List.getElem_cons_zero, List.setIfInBounds_toArray, List.set_cons_zero, List.set_cons_succ])
            refine wpAnyH_take (i := 7) (v := ?v7) rfl (by kernel_rfl) (by kernel_rfl) (by kernel_rfl) (fun _ _ _ h => h) (Or.inl ⟨by kernel_rfl, ?y7⟩) (by assumption) ?r7
            case y7 => (intro wq hSw; (try dsimp only at hSw); go_simp; (try with_reducible rfl))
            (try simp only [Act.put, List.getElem_toArray, List.getElem_cons_succ, List.getElem_cons_zero, List.setIfInBounds_toArray, List.set_cons_zero, List.set_cons_succ])
            refine wpAnyH_take (i := 10) (v := ?v10) rfl (by kernel_rfl) (by kernel_rfl) (by kernel_rfl) (fun _ _ _ h => h) (Or.inl ⟨by kernel_rfl, ?y10⟩) (by assumption) ?r10
            case y10 => (intro wq hSw; (try dsimp only at hSw); go_simp; (try with_reducible rfl))
            (try simp only [Act.put, List.getElem_toArray, List.getElem_cons_succ, List.getElem_cons_zero, List.setIfInBounds_toArray, List.set_cons_zero, List.set_cons_succ])
            refine wpAnyH_ready (rs := [8]) (by kernel_rfl) (by simp) ?_
            refine AllReadyH.cons rfl (fun K hK => ?_) AllReadyH.nil
            go_simp; rw [← hA]
            refine hK.out _ _ (by exact ⟨HQA.out.at_ (i := 0) rfl, HQA.out.at_ (i := 1) rfl, HQA.out.at_ (i := 2) rfl, HQA.out.at_ (i := 3) rfl, HQA.out.at_ (i := 4) rfl⟩) (fun hHeld => ?_)
            clear hK K
            (try simp only [Act.put, List.getElem_toArray, List.getElem_cons_succ, List.getElem_cons_zero, List.setIfInBounds_toArray, List.set_cons_zero, List.set_cons_succ])
            refine wpAnyH_ready (rs := [9]) (by kernel_rfl) (by simp) ?_
            refine AllReadyH.cons rfl (fun K hK => ?_) AllReadyH.nil
            (refine step_append_grows rfl (.tmp 26) (.tmp 28) 34 rfl 3 i0 (.int .i64 0) 1 8 Try.underlying34 hi0 hz0 hz1 hz2 rfl (by decide) q n n (wayV way) rfl HNO.out HLO.out HWO.out ⟨wr.heap.size + 1, 0, none⟩ 1 1 [.int .i64 k] rfl rfl HCA.out (by simp [Value.oneCell']) (by omega) (by unfold maxLen; omega) (by omega) ?_); intro v2 A2 ho hg2; have HWV2 := Lib.hid (HWY.out v2 A2 ho); have HB2 := Lib.hid (HBA.out.drew.trans ((below_of_grown hg2).mono HBA.out.size)); have HQ3 := Lib.hid ((HQA.out.drew).next (below_of_grown hg2)); clear ho hg2
            refine hK.out _ _ (by exact ⟨HQ3.out.at_ (i := 0) rfl, HQ3.out.at_ (i := 1) rfl, HQ3.out.at_ (i := 2) rfl, HQ3.out.at_ (i := 3) rfl, HQ3.out.at_ (i := 4) rfl⟩) (fun hHeld => ?_)
            clear hK K
            (try simp only [Act.put, List.getElem_toArray, List.getElem_cons_succ, List.getElem_cons_zero, List.setIfInBounds_toArray, List.set_cons_zero, List.set_cons_succ])
            refine wpAnyH_ready (rs := [11]) (by kernel_rfl) (by simp) ?_
            refine AllReadyH.cons rfl (fun K hK => ?_) AllReadyH.nil
            go_simp
            refine (HI.out _ _ HB2.out HWV2.out).mono ?_
            rintro e w5 ⟨rfl, F3, hj3, ht3⟩; have HT3 := Lib.hid ht3; have HJ3 := Lib.hid hj3; have HQ5 := Lib.hid (ht3.blk HQ3.out (fun h => Nat.lt_irrefl _ (HJ.out.lt _ _ _ HJ2.out _ h))); clear ht3 hj3
            (try dsimp only)
            refine hK.out _ _ (by exact ⟨HQ5.out.at_ (i := 0) rfl, HQ5.out.at_ (i := 1) rfl, HQ5.out.at_ (i := 2) rfl, HQ5.out.at_ (i := 3) rfl, HQ5.out.at_ (i := 4) rfl⟩) (fun hHeld => ?_)
            clear hK K
            (try simp only [Act.put, List.getElem_toArray, List.getElem_cons_succ, List.getElem_cons_zero, List.setIfInBounds_toArray, List.set_cons_zero, List.set_cons_succ])
            refine wpAnyH_done (by kernel_rfl) ?_ _
            have hv3 : Vs f J s1 way ks F (w.alloc (.cells #[.int .i64 a.k, .int .i64 a.w, .int .i64 a.c, .int .i64 a.s, .slice (some ⟨b, o, none⟩) m cap] 24)) (k + 1) w5 := ⟨by rw [HNX.out], F3, by rw [HNX.out]; exact HJ3.out, HTN.out.trans ((Turn.of_below HB2.out).trans HT3.out)⟩
            have HV3 := Lib.hid hv3
            clear hv3 HI HWV2 HB2 HQ3 HT3 HJ3 HQ5 HNX HX HBA HQA HCA HNO HLO HWO HWY HQ2 S0 hi0 hz0 hz1 hz2 hA hxw hZb hb1
            go_wp2_with fail
            go_roundw
            case rel => exact ⟨k + 1, by omega, by go_num, HV3.out⟩
            case measure => simp [intOf]; omega
          · rw [show endE ((sr, true) : σ × Bool).2 pv = .panicked [{ v := pv, recovered := false }] from rfl] at HI
            refine wp_region_held_drew (S := fun wx => wx.cell? ⟨wr.heap.size, 0, none⟩ = some (.int .i64 xa.k) ∧ wx.cell? ⟨wr.heap.size, 1, none⟩ = some (.int .i64 xa.w) ∧ wx.cell? ⟨wr.heap.size, 2, none⟩ = some (.int .i64 xa.c) ∧ wx.cell? ⟨wr.heap.size, 3, none⟩ = some (.int .i64 xa.s) ∧ wx.cell? ⟨wr.heap.size, 4, none⟩ = some (.slice p1 nk cp1)) (by kernel_rfl) (by exact S0) (fun hHeld => ?_)
            refine wpAnyH_take (i := 0) (v := ?vb0) rfl (by kernel_rfl) (by kernel_rfl) (by kernel_rfl) (fun _ _ _ h => h) (Or.inl ⟨by kernel_rfl, ?yb0⟩) (by assumption) ?rb0
            case yb0 => (intro wq hSw; (try dsimp only at hSw); go_simp; (try with_reducible rfl))
            (try simp only [Act.put, List.getElem_toArray, List.getElem_cons_zero, List.setIfInBounds_toArray, List.set_cons_zero, List.set_cons_succ])
            refine wpAnyH_take (i := 1) (v := ?vb1) rfl (by kernel_rfl) (by kernel_rfl) (by kernel_rfl) (fun _ _ _ h => h) (Or.inl ⟨by kernel_rfl, ?yb1⟩) (by assumption) ?rb1
            case yb1 => (intro wq hSw; (try dsimp only at hSw); go_simp; (try with_reducible rfl))
            (try simp only [Act.put, List.getElem_toArray, List.getElem_cons_succ, List.getElem_cons_zero, List.setIfInBounds_toArray, List.set_cons_zero, List.set_cons_succ])
            refine wpAnyH_take (i := 2) (v := ?vb2) rfl (by kernel_rfl) (by kernel_rfl) (by kernel_rfl) (fun _ _ _ h => h) (Or.inl ⟨by kernel_rfl, ?yb2⟩) (by assumption) ?rb2
            case yb2 => (intro wq hSw; (try dsimp only at hSw); go_simp; (try with_reducible rfl))
            (try simp only [Act.put, List.getElem_toArray, List.getElem_cons_succ, List.getElem_cons_zero, List.setIfInBounds_toArray, List.set_cons_zero, List.set_cons_succ])
            refine wpAnyH_take (i := 3) (v := ?vb3) rfl (by kernel_rfl) (by kernel_rfl) (by kernel_rfl) (fun _ _ _ h => h) (Or.inl ⟨by kernel_rfl, ?yb3⟩) (by assumption) ?rb3
            case yb3 => (intro wq hSw; (try dsimp only at hSw); go_simp; (try with_reducible rfl))
            (try simp only [Act.put, List.getElem_toArray, List.getElem_cons_succ, List.getElem_cons_zero, List.setIfInBounds_toArray, List.set_cons_zero, List.set_cons_succ])
            refine wpAnyH_take (i := 4) (v := ?vb4) rfl (by kernel_rfl) (by kernel_rfl) (by kernel_rfl) (fun _ _ _ h => h) (Or.inl ⟨by kernel_rfl, ?yb4⟩) (by assumption) ?rb4
            case yb4 => (intro wq hSw; (try dsimp only at hSw); go_simp; (try with_reducible rfl))
            (try simp only [Act.put, List.getElem_toArray, List.getElem_cons_succ, List.getElem_cons_zero, List.setIfInBounds_toArray, List.set_cons_zero, List.set_cons_succ])
            refine wpAnyH_take (i := 5) (v := ?vb5) rfl (by kernel_rfl) (by kernel_rfl) (by kernel_rfl) (fun _ _ _ h => h) (Or.inl ⟨by kernel_rfl, ?yb5⟩) (by assumption) ?rb5
            case yb5 => (intro wq hSw; (try dsimp only at hSw); go_simp; (try with_reducible rfl))
            (try simp only [Act.put, List.getElem_toArray, List.getElem_cons_succ, List.getElem_cons_zero, List.setIfInBounds_toArray, List.set_cons_zero, List.set_cons_succ])
            refine wpAnyH_take (i := 6) (v := ?vb6) rfl (by kernel_rfl) (by kernel_rfl) (by kernel_rfl) (fun _ _ _ h => h) (Or.inl ⟨by kernel_rfl, ?yb6⟩) (by assumption) ?rb6
            case yb6 => (intro wq hSw; (try dsimp only at hSw); go_simp; (try with_reducible rfl))
            (try simp only [Act.put, List.getElem_toArray, List.getElem_cons_succ, List.getElem_cons_zero, List.setIfInBounds_toArray, List.set_cons_zero, List.set_cons_succ])
            refine wpAnyH_take (i := 7) (v := ?vb7) rfl (by kernel_rfl) (by kernel_rfl) (by kernel_rfl) (fun _ _ _ h => h) (Or.inl ⟨by kernel_rfl, ?yb7⟩) (by assumption) ?rb7
            case yb7 => (intro wq hSw; (try dsimp only at hSw); go_simp; (try with_reducible rfl))
            (try simp only [Act.put, List.getElem_toArray, List.getElem_cons_succ, List.getElem_cons_zero, List.setIfInBounds_toArray, List.set_cons_zero, List.set_cons_succ])
            refine wpAnyH_take (i := 10) (v := ?vb10) rfl (by kernel_rfl) (by kernel_rfl) (by kernel_rfl) (fun _ _ _ h => h) (Or.inl ⟨by kernel_rfl, ?yb10⟩) (by assumption) ?rb10
            case yb10 => (intro wq hSw; (try dsimp only at hSw); go_simp; (try with_reducible rfl))
            (try simp only [Act.put, List.getElem_toArray, List.getElem_cons_succ, List.getElem_cons_zero, List.setIfInBounds_toArray, List.set_cons_zero, List.set_cons_succ])
            refine wpAnyH_ready (rs := [8]) (by kernel_rfl) (by simp) ?_
            refine AllReadyH.cons rfl (fun K hK => ?_) AllReadyH.nil
            go_simp; rw [← hA]
            refine hK.out _ _ (by exact ⟨HQA.out.at_ (i := 0) rfl, HQA.out.at_ (i := 1) rfl, HQA.out.at_ (i := 2) rfl, HQA.out.at_ (i := 3) rfl, HQA.out.at_ (i := 4) rfl⟩) (fun hHeld => ?_)
            clear hK K
            (try simp only [Act.put, List.getElem_toArray, List.getElem_cons_succ, List.getElem_cons_zero, List.setIfInBounds_toArray, List.set_cons_zero, List.set_cons_succ])
            refine wpAnyH_ready (rs := [9]) (by kernel_rfl) (by simp) ?_
            refine AllReadyH.cons rfl (fun K hK => ?_) AllReadyH.nil
            (refine step_append_grows rfl (.tmp 26) (.tmp 28) 34 rfl 3 i0 (.int .i64 0) 1 8 Try.underlying34 hi0 hz0 hz1 hz2 rfl (by decide) q n n (wayV way) rfl HNO.out HLO.out HWO.out ⟨wr.heap.size + 1, 0, none⟩ 1 1 [.int .i64 k] rfl rfl HCA.out (by simp [Value.oneCell']) (by omega) (by unfold maxLen; omega) (by omega) ?_); intro v2 A2 ho hg2; have HWV2 := Lib.hid (HWY.out v2 A2 ho); have HB2 := Lib.hid (HBA.out.drew.trans ((below_of_grown hg2).mono HBA.out.size)); have HQ3 := Lib.hid ((HQA.out.drew).next (below_of_grown hg2)); clear ho hg2
            refine hK.out _ _ (by exact ⟨HQ3.out.at_ (i := 0) rfl, HQ3.out.at_ (i := 1) rfl, HQ3.out.at_ (i := 2) rfl, HQ3.out.at_ (i := 3) rfl, HQ3.out.at_ (i := 4) rfl⟩) (fun hHeld => ?_)
            clear hK K
            (try simp only [Act.put, List.getElem_toArray, List.getElem_cons_succ, List.getElem_cons_zero, List.setIfInBounds_toArray, List.set_cons_zero, List.set_cons_succ])
            refine wpAnyH_ready (rs := [11]) (by kernel_rfl) (by simp) ?_
            refine AllReadyH.cons rfl (fun K hK => ?_) AllReadyH.nil
            go_simp
            refine (HI.out _ _ HB2.out HWV2.out).mono ?_
            rintro e w5 ⟨rfl, F3, hj3, ht3⟩
            have e1 := run_stop (f := f) (ks := ks) (k + 1) way s1 (by rw [HNX.out])
            refine ⟨rfl, ?_⟩
            rw [HR.out, e1, HNX.out]
            exact ⟨rfl, F3, hj3, HB.out |> Turn.of_below |>.trans (HTN.out.trans ((Turn.of_below HB2.out).trans ht3))⟩
        · have HE := Lib.hid (show run f s (pre (.mk a ks) way) = run f s1 (preL (ks.take k) way 0) by rw [HR.out, List.take_of_length_le (by have := HM.out; omega)])
          have HV2 := Lib.hid hv2
          have HJ2 := Lib.hid hj
          have HTN := Lib.hid htn
          clear hv2 hj htn
          go_wp2_with fail
          go_end0
          rw [HE.out]
          refine ⟨?_, F2, HJ2.out, (Turn.of_below HB.out).trans HTN.out⟩
          unfold endE
          rw [HV2.out]
          rfl
    · rw [hst, show endE true pv = .panicked [{ v := pv, recovered := false }] from rfl] at HV
      have HR := Lib.hid (show run f s (pre (.mk a ks) way) = ((f s (.mk a ks) way).1, true) by simp [pre, run, hst])
      have HB := Lib.hid hb0
      clear hst hs hgs hre hK hw hZ hWV ih hb0 hQ hV hl hlen hFn hJ
      go_enter Try.func96, Try.ntmps96
      go_wp2_with fail
      refine HV.out.mono ?_
      rintro e w1 ⟨rfl, F', hj, htn⟩
      have HT := Lib.hid ((Turn.of_below HB.out).trans htn)
      have HJ := Lib.hid hj
      clear htn hj
      refine ⟨rfl, ?_⟩
      rw [HR.out]
      exact ⟨rfl, F', HJ.out, HT.out⟩
end
end Go.Proofs.Ytjeabkcbaielhaa.Co
