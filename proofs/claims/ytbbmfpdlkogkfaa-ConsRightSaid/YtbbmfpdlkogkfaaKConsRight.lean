/- The law's example. ConsRemoves, walked. What the calls that change a tree answer, in one form for the code's and the document's. ConsChanges, walked. Plain: what is told of trees are trees: wrapped, of another weight, without a client, with one more. Plain: a client put in and removed again. The document's Top. Are two rows of numbers the same? Rows of numbers, as they read. ConsTells, walked. What laws ask of a container that lies in memory, in one form. The code's grow: one weight alone. What cons.Grow's closure does, walked. cons.Grow: what change tells, told on. What ConsRight asks: swapped there and back, grown, as trees. ConsRight, walked. An argument that is a container, opened. ConsRight, with the row's bounds. The law ConsRight holds for every input: the call returns true, and each argument reads behind it as it read before. No condition. -/
import Derived.Test.YtbbmfpdlkogkfaaKX
import Derived.Test.YtbbmfpdlkogkfaaCpZ
import Derived.Test.YtbbmfpdlkogkfaaKZ
import Derived.Test.YtbbmfpdlkogkfaaKY
import Derived.Test.YtbbmfpdlkogkfaaCpL
import Derived.Test.YtbbmfpdlkogkfaaCpX
import Derived.Test.YtbbmfpdlkogkfaaCpQ
import Derived.Test.YtbbmfpdlkogkfaaCpY
import Derived.Test.YtbbmfpdlkogkfaaCpI
import Derived.Test.YtbbmfpdlkogkfaaCpR
import Derived.Test.YtbbmfpdlkogkfaaCpJ
import Derived.Test.YtbbmfpdlkogkfaaCpK
import Derived.Test.YtbbmfpdlkogkfaaCoX
import Derived.Test.YtbbmfpdlkogkfaaKS
import Derived.Test.YtbbmfpdlkogkfaaCoY
import Derived.Test.YtbbmfpdlkogkfaaCoZ
import Derived.Deep.Slices
import Derived.Deep.Fields
import Derived.SizedLaws
import Derived.Test.YtbbmfpdlkogkfaaRows
import Derived.Lib.SmallJoins
import Derived.Laws.Cover2
import Derived.ChangeMaps5
section
namespace Go.Proofs.Ytbbmfpdlkogkfaa.Co
open Go.RowKit Go.Shelf
theorem KV.pair {w : World} {g : Nat} {x y : Con} {s t : Value} (hb : Blk w g 24 #[.int .i64 x.a.k, .int .i64 x.a.w, .int .i64 x.a.c, .int .i64 x.a.s, s, .int .i64 y.a.k, .int .i64 y.a.w, .int .i64 y.a.c, .int .i64 y.a.s, t]) {Z : Nat → Prop} (hz : Z g) (hx : KV w Z x.ks s) (hwx : x.a.wide) (hy : KV w Z y.ks t) (hwy : y.a.wide) : KV w Z [x, y] (.slice (some ⟨g, 0, none⟩) 2 2) := by
  refine .mk [x, y] _ 2 (fun j => if j = 0 then s else t) (by simp) (by simp) (fun j z hz' => ?_) (fun j z hz' => ?_)
  · have hj := (List.getElem?_eq_some_iff.1 hz').1
    simp at hj
    obtain rfl | rfl : j = 0 ∨ j = 1 := by omega
    · obtain rfl := Option.some.inj hz'
      refine ⟨g, 0, rfl, hz, hb.lt, hwx, fun i u hu => ?_⟩
      have hi := (List.getElem?_eq_some_iff.1 hu).1
      simp [encC] at hi
      have := hb.at_ (i := i) (v := u) (by
        obtain rfl | rfl | rfl | rfl | rfl : i = 0 ∨ i = 1 ∨ i = 2 ∨ i = 3 ∨ i = 4 := by omega
        all_goals exact hu)
      simpa using this
    · obtain rfl := Option.some.inj hz'
      refine ⟨g, 0, rfl, hz, hb.lt, hwy, fun i u hu => ?_⟩
      have hi := (List.getElem?_eq_some_iff.1 hu).1
      simp [encC] at hi
      have := hb.at_ (i := 5 + i) (v := u) (by
        obtain rfl | rfl | rfl | rfl | rfl : i = 0 ∨ i = 1 ∨ i = 2 ∨ i = 3 ∨ i = 4 := by omega
        all_goals exact hu)
      simpa using this
  · have hj := (List.getElem?_eq_some_iff.1 hz').1
    simp at hj
    obtain rfl | rfl : j = 0 ∨ j = 1 := by omega
    · obtain rfl := Option.some.inj hz'
      exact hx
    · obtain rfl := Option.some.inj hz'
      exact hy
theorem i64c (n : Int) (h : -100000 ≤ n ∧ n ≤ 100000) : I64 n := by unfold I64; omega
theorem spl_wide (k : Int) (h : -100000 ≤ k ∧ k ≤ 100000) : (⟨k, 65536, 0, 0⟩ : D).wide := ⟨i64c k h, i64c 65536 (by decide), i64c 0 (by decide), i64c 0 (by decide)⟩
def T1 : Con := .mk ⟨1, 65536, 0, 0⟩ [leafT 1, leafT 2]
def T2 : Con := .mk ⟨1, 65536, 0, 0⟩ [leafT 1, .mk ⟨2, 65536, 0, 0⟩ [leafT 2]]
def T3 : Con := .mk ⟨1, 65536, 0, 0⟩ [leafT 1, .mk ⟨2, 65536, 0, 0⟩ [leafT 2, leafT 3]]
theorem leafT_fine {c : Int} (h : I64 c) : fine (leafT c) := fine_mk ⟨i64c 0 (by decide), i64c 65536 (by decide), h, i64c 0 (by decide)⟩ (by simp) (by simp)
theorem T1_fine : fine T1 := fine_mk (spl_wide _ (by decide)) (by simp) (by
  intro x hx
  simp only [List.mem_cons, List.not_mem_nil, or_false] at hx
  rcases hx with rfl | rfl
  all_goals exact leafT_fine (i64c _ (by decide)))
theorem T2_fine : fine T2 := fine_mk (spl_wide _ (by decide)) (by simp) (by
  intro x hx
  simp only [List.mem_cons, List.not_mem_nil, or_false] at hx
  rcases hx with rfl | rfl
  · exact leafT_fine (i64c _ (by decide))
  · exact fine_mk (spl_wide _ (by decide)) (by simp) (by
      intro x hx
      simp only [List.mem_cons, List.not_mem_nil, or_false] at hx
      subst hx
      exact leafT_fine (i64c _ (by decide))))
theorem T3_fine : fine T3 := fine_mk (spl_wide _ (by decide)) (by simp) (by
  intro x hx
  simp only [List.mem_cons, List.not_mem_nil, or_false] at hx
  rcases hx with rfl | rfl
  · exact leafT_fine (i64c _ (by decide))
  · exact fine_mk (spl_wide _ (by decide)) (by simp) (by
      intro x hx
      simp only [List.mem_cons, List.not_mem_nil, or_false] at hx
      rcases hx with rfl | rfl
      all_goals exact leafT_fine (i64c _ (by decide))))
theorem aw_wrap : wrapI T1 2 2 = (T2, 0) := by kernel_rfl
theorem aw_insert : insertI T2 2 3 0 = (T3, 0) := by kernel_rfl
theorem aw_remove : removeI T3 3 = (T1, 0) := by kernel_rfl
theorem aw_told {N : Nat} {r : Con × Int} {t : Con} {e : Ending} {w : World} (h : TellR N r e w) (hr : r = (t, 0)) (hf : fine t) : ∃ s, e = .returned (.tuple #[conV t.a s, .int .i64 0]) ∧ KV w (fun b => N ≤ b) t.ks s := by
  subst hr
  obtain ⟨y, s, h1, h2, h3⟩ := h.reads fun _ => hf
  rw [if_pos rfl] at h3
  subst h3
  exact ⟨s, h1, h2⟩
theorem aw_new (w : World) : Calls Try.prog 23 #[.int .i64 1] w fun e w' => e = .returned (.agg #[.int .i64 1, .int .i64 65536, .int .i64 0, .int .i64 0, .slice none 0 0]) ∧ Below w.heap.size w w' := new_c 1 w
theorem aw_leaf (c : Int) (w : World) : Calls Try.prog 55 #[.int .i64 c] w fun e w' => e = .returned (.agg #[.int .i64 0, .int .i64 65536, .int .i64 c, .int .i64 0, .slice none 0 0]) ∧ Below w.heap.size w w' := leaf_c c w
theorem aw_call {N : Nat} {r : Con × Int} {t : Con} {e : Ending} {w : World} (ha : t.a = ⟨1, 65536, 0, 0⟩) (hl : t.ks.length = 2) (h : TellR N r e w) (hr : r = (t, 0)) (hf : fine t) : ∃ p c, e = .returned (.tuple #[.agg #[.int .i64 1, .int .i64 65536, .int .i64 0, .int .i64 0, .slice p 2 c], .int .i64 0]) ∧ KV w (fun b => N ≤ b) t.ks (.slice p 2 c) := by
  obtain ⟨s, h1, h2⟩ := aw_told h hr hf
  obtain ⟨p, c, rfl, -⟩ := h2.slice
  rw [hl] at h1 h2
  rw [ha] at h1
  exact ⟨p, c, h1, h2⟩
theorem wrap_aw (s : Value) (w : World) (hK : KV w (fun b => b < w.heap.size) T1.ks s) : Calls Try.prog 37 #[.agg #[.int .i64 1, .int .i64 65536, .int .i64 0, .int .i64 0, s], .int .i64 2, .int .i64 2] w fun e w' => (∃ p c, e = .returned (.tuple #[.agg #[.int .i64 1, .int .i64 65536, .int .i64 0, .int .i64 0, .slice p 2 c], .int .i64 0]) ∧ KV w' (fun b => w.heap.size ≤ b) T2.ks (.slice p 2 c)) ∧ Below w.heap.size w w' :=
  (wrap_c T1 s 2 2 w hK (T1_fine [] T1 rfl).1 (by decide) (by decide)).mono fun e w' ⟨h1, h2⟩ => ⟨aw_call rfl rfl h1 aw_wrap T2_fine, h2⟩
theorem ins_aw (s : Value) (w : World) (hK : KV w (fun b => b < w.heap.size) T2.ks s) : Calls Try.prog 31 #[.agg #[.int .i64 1, .int .i64 65536, .int .i64 0, .int .i64 0, s], .int .i64 2, .int .i64 3, .int .i64 0] w fun e w' => (∃ p c, e = .returned (.tuple #[.agg #[.int .i64 1, .int .i64 65536, .int .i64 0, .int .i64 0, .slice p 2 c], .int .i64 0]) ∧ KV w' (fun b => w.heap.size ≤ b) T3.ks (.slice p 2 c)) ∧ Below w.heap.size w w' :=
  (Insert_c T2 s 2 3 0 w hK (T2_fine [] T2 rfl).1 (by decide) (by decide) (by decide +kernel)).mono fun e w' ⟨h1, h2⟩ => ⟨aw_call rfl rfl h1 aw_insert T3_fine, h2⟩
theorem rem_aw (s : Value) (w : World) (hK : KV w (fun b => b < w.heap.size) T3.ks s) : Calls Try.prog 33 #[.agg #[.int .i64 1, .int .i64 65536, .int .i64 0, .int .i64 0, s], .int .i64 3] w fun e w' => (∃ p c, e = .returned (.tuple #[.agg #[.int .i64 1, .int .i64 65536, .int .i64 0, .int .i64 0, .slice p 2 c], .int .i64 0]) ∧ KV w' (fun b => w.heap.size ≤ b) T1.ks (.slice p 2 c)) ∧ Below w.heap.size w w' :=
  (remove_c T3 s 3 w hK (T3_fine [] T3 rfl).1 (by decide) (by decide)).mono fun e w' ⟨h1, h2⟩ => ⟨aw_call rfl rfl h1 aw_remove T1_fine, h2⟩
theorem same_aw (t : Con) (ha : t.a = ⟨1, 65536, 0, 0⟩) (s u : Value) (w : World) {Z Z' : Nat → Prop} (h1 : KV w Z t.ks s) (h2 : KV w Z' t.ks u) : Calls Try.prog 21 #[.agg #[.int .i64 1, .int .i64 65536, .int .i64 0, .int .i64 0, s], .agg #[.int .i64 1, .int .i64 65536, .int .i64 0, .int .i64 0, u]] w fun e w' => e = .returned (.bool true) ∧ Below w.heap.size w w' := by
  have := same_c Z Z' t t s u w h1 h2
  rw [sameB_refl, ha] at this
  exact this
set_option maxHeartbeats 4000000 in
theorem awake_c (w : World) : Calls Try.prog 18 #[] w fun e w' => e = .returned (.bool true) ∧ Below w.heap.size w w' := by
  go_enter Try.func18, Try.ntmps18
  go_wp2_with fail
  refine (aw_new w).mono ?_
  rintro e w1 ⟨rfl, hb1⟩
  have q1 := Blk.new w1 24 #[.int .i64 1, .int .i64 65536, .int .i64 0, .int .i64 0, .slice none 0 0]
  go_wp2_with fail
  refine (aw_leaf 1 _).mono ?_
  rintro e w2 ⟨rfl, hb2⟩
  have q2 := q1.next hb2
  go_wp2_with fail
  refine (aw_leaf 2 _).mono ?_
  rintro e w3 ⟨rfl, hb3⟩
  have q3 := q2.next hb3
  obtain ⟨⟨b0, b1, b2, b3, b4⟩, ⟨f0, f1, f2, f3, f4⟩⟩ := c5 q3
  have hs3 : w1.heap.size < w3.heap.size := q3.lt
  have hs4 : w1.heap.size ≠ w3.heap.size := Nat.ne_of_lt hs3
  have hb13 : Below w.heap.size w w3 := by
    have h2 := ((hb1.alloc hb1.size (.cells #[.int .i64 1, .int .i64 65536, .int .i64 0, .int .i64 0, .slice none 0 0] 24)).trans (hb2.mono (by simp; exact Nat.le_succ_of_le hb1.size)))
    exact h2.trans (hb3.mono h2.size)
  have HB13 := Lib.hid hb13
  have HQ3 := Lib.hid q3
  have HS1 := Lib.hid hb1.size
  clear hb1 hb2 hb3 q1 q2 q3 hb13
  go_wp2_with fail
  obtain ⟨wA, hwA⟩ : ∃ wA, wA = (w3.setCell ⟨w1.heap.size, 4, none⟩ (.slice (some ⟨w3.heap.size, 0, none⟩) 2 2)).alloc (.cells #[.int .i64 0, .int .i64 65536, .int .i64 1, .int .i64 0, .slice none 0 0, .int .i64 0, .int .i64 65536, .int .i64 2, .int .i64 0, .slice none 0 0] 24) := ⟨_, rfl⟩
  rewrite [← hwA]
  have hbA : Below w.heap.size w wA := by rw [hwA]; exact (HB13.out.setCell HS1.out _).alloc (by simp; exact HB13.out.size) _
  have qA : Blk wA w1.heap.size 24 #[.int .i64 1, .int .i64 65536, .int .i64 0, .int .i64 0, .slice (some ⟨w3.heap.size, 0, none⟩) 2 2] := by rw [hwA]; exact (HQ3.out.set_ 4 _).alloc _
  have qB : Blk wA w3.heap.size 24 #[.int .i64 0, .int .i64 65536, .int .i64 1, .int .i64 0, .slice none 0 0, .int .i64 0, .int .i64 65536, .int .i64 2, .int .i64 0, .slice none 0 0] := by
    rw [hwA]; have := Blk.new (w3.setCell ⟨w1.heap.size, 4, none⟩ (.slice (some ⟨w3.heap.size, 0, none⟩) 2 2)) 24 #[.int .i64 0, .int .i64 65536, .int .i64 1, .int .i64 0, .slice none 0 0, .int .i64 0, .int .i64 65536, .int .i64 2, .int .i64 0, .slice none 0 0]; rwa [World.size_setCell] at this
  have hkA : KV wA (fun b => b < wA.heap.size) T1.ks (.slice (some ⟨w3.heap.size, 0, none⟩) 2 2) := KV.pair (x := leafT 1) (y := leafT 2) qB qB.lt (KV.nil _ _ _ _) (leafT_fine (i64c _ (by decide)) [] _ rfl).1 (KV.nil _ _ _ _) (leafT_fine (i64c _ (by decide)) [] _ rfl).1
  clear hwA HQ3 HB13 HS1 b0 b1 b2 b3 b4 f0 f1 f2 f3 f4 qB
  refine (wrap_aw _ wA hkA).mono ?_
  rintro e w4 ⟨⟨p4, k4, rfl, hk4⟩, hb4⟩
  have q4 := Blk.new w4 24 #[.int .i64 1, .int .i64 65536, .int .i64 0, .int .i64 0, .slice p4 2 k4]
  go_wp2_with fail
  have hb4' : Below w.heap.size w (w4.alloc (.cells #[.int .i64 1, .int .i64 65536, .int .i64 0, .int .i64 0, .slice p4 2 k4] 24)) := (hbA.trans (hb4.mono hbA.size)).alloc (Nat.le_trans hbA.size hb4.size) _
  have qA4 := (qA.next hb4).alloc (.cells #[.int .i64 1, .int .i64 65536, .int .i64 0, .int .i64 0, .slice p4 2 k4] 24)
  refine (ins_aw _ _ (hk4.alloc _).all).mono ?_
  rintro e w5 ⟨⟨p5, k5, rfl, hk5⟩, hb5⟩
  have hkA4 := (hkA.next hb4).alloc (.cells #[.int .i64 1, .int .i64 65536, .int .i64 0, .int .i64 0, .slice p4 2 k4] 24)
  have hkA5 := hkA4.next hb5
  have qA5 := qA4.next hb5
  have hb5' := hb4'.trans (hb5.mono hb4'.size)
  have q5 := Blk.new w5 24 #[.int .i64 1, .int .i64 65536, .int .i64 0, .int .i64 0, .slice p5 2 k5]
  clear hb4 hb5 hb4' qA qA4 q4 hk4 hbA hkA hkA4
  go_wp2_with fail
  have hb5a : Below w.heap.size w (w5.alloc (.cells #[.int .i64 1, .int .i64 65536, .int .i64 0, .int .i64 0, .slice p5 2 k5] 24)) := hb5'.alloc hb5'.size _
  have qA5' := qA5.alloc (.cells #[.int .i64 1, .int .i64 65536, .int .i64 0, .int .i64 0, .slice p5 2 k5] 24)
  have hkA5' := hkA5.alloc (.cells #[.int .i64 1, .int .i64 65536, .int .i64 0, .int .i64 0, .slice p5 2 k5] 24)
  have hk5' := hk5.alloc (.cells #[.int .i64 1, .int .i64 65536, .int .i64 0, .int .i64 0, .slice p5 2 k5] 24)
  refine (rem_aw _ _ (hk5.alloc _).all).mono ?_
  rintro e w6 ⟨⟨p6, k6, rfl, hk6⟩, hb6⟩
  have hb6' := hb5a.trans (hb6.mono hb5a.size)
  have qA6 := qA5'.next hb6
  have q56 := q5.next hb6
  have hkA6 := hkA5'.next hb6
  have hk56 := hk5'.next hb6
  have q6 := Blk.new w6 24 #[.int .i64 1, .int .i64 65536, .int .i64 0, .int .i64 0, .slice p6 2 k6]
  clear hb5' hb5a qA5 qA5' q5 hk5 hk5' hkA5 hkA5' hb6
  go_wp2_with fail
  have hb6a : Below w.heap.size w (w6.alloc (.cells #[.int .i64 1, .int .i64 65536, .int .i64 0, .int .i64 0, .slice p6 2 k6] 24)) := hb6'.alloc hb6'.size _
  have qA6' := qA6.alloc (.cells #[.int .i64 1, .int .i64 65536, .int .i64 0, .int .i64 0, .slice p6 2 k6] 24)
  have q56' := q56.alloc (.cells #[.int .i64 1, .int .i64 65536, .int .i64 0, .int .i64 0, .slice p6 2 k6] 24)
  have hkA6' := hkA6.alloc (.cells #[.int .i64 1, .int .i64 65536, .int .i64 0, .int .i64 0, .slice p6 2 k6] 24)
  have hk56' := hk56.alloc (.cells #[.int .i64 1, .int .i64 65536, .int .i64 0, .int .i64 0, .slice p6 2 k6] 24)
  have hk6' := hk6.alloc (.cells #[.int .i64 1, .int .i64 65536, .int .i64 0, .int .i64 0, .slice p6 2 k6] 24)
  clear qA6 q56 hkA6 hk56 hk6 hb6'
  refine (aw_leaf 1 _).mono ?_
  rintro e w7 ⟨rfl, hb7⟩
  go_wp2_with fail
  refine (aw_leaf 2 _).mono ?_
  rintro e w8 ⟨rfl, hb8⟩
  have hb68 := hb7.trans (hb8.mono hb7.size)
  clear hb7 hb8
  go_wp2_with fail
  refine (aw_leaf 3 _).mono ?_
  rintro e w9 ⟨rfl, hb9⟩
  have hb69 := hb68.trans (hb9.mono hb68.size)
  have hb9' := hb6a.trans (hb69.mono hb6a.size)
  have qA9 := qA6'.next hb69
  have q59 := q56'.next hb69
  have q69 := q6.next hb69
  have hkA9 := hkA6'.next hb69
  have hk59 := hk56'.next hb69
  have hk69 := hk6'.next hb69
  clear hb9 hb68 hb69 hb6a qA6' q56' q6 hkA6' hk56' hk6'
  obtain ⟨⟨a0, a1, a2, a3, a4⟩, -⟩ := c5 qA9
  obtain ⟨⟨b0, b1, b2, b3, b4⟩, -⟩ := c5 q59
  obtain ⟨⟨c0, c1, c2, c3, c4⟩, -⟩ := c5 q69
  have hw10 : w1.heap.size < w9.heap.size  := by have := qA9.lt; omega
  have hw10' : w1.heap.size ≠ w9.heap.size  := by have := qA9.lt; omega
  have hw11 : w1.heap.size < w9.heap.size + 1 := by have := qA9.lt; omega
  have hw11' : w1.heap.size ≠ w9.heap.size + 1 := by have := qA9.lt; omega
  have hw12 : w1.heap.size < w9.heap.size + 1 + 1 := by have := qA9.lt; omega
  have hw12' : w1.heap.size ≠ w9.heap.size + 1 + 1 := by have := qA9.lt; omega
  have hw50 : w5.heap.size < w9.heap.size  := by have := q59.lt; omega
  have hw50' : w5.heap.size ≠ w9.heap.size  := by have := q59.lt; omega
  have hw51 : w5.heap.size < w9.heap.size + 1 := by have := q59.lt; omega
  have hw51' : w5.heap.size ≠ w9.heap.size + 1 := by have := q59.lt; omega
  have hw52 : w5.heap.size < w9.heap.size + 1 + 1 := by have := q59.lt; omega
  have hw52' : w5.heap.size ≠ w9.heap.size + 1 + 1 := by have := q59.lt; omega
  have hw60 : w6.heap.size < w9.heap.size  := by have := q69.lt; omega
  have hw60' : w6.heap.size ≠ w9.heap.size  := by have := q69.lt; omega
  have hw61 : w6.heap.size < w9.heap.size + 1 := by have := q69.lt; omega
  have hw61' : w6.heap.size ≠ w9.heap.size + 1 := by have := q69.lt; omega
  have hw62 : w6.heap.size < w9.heap.size + 1 + 1 := by have := q69.lt; omega
  have hw62' : w6.heap.size ≠ w9.heap.size + 1 + 1 := by have := q69.lt; omega
  have HQA := Lib.hid qA9
  have HQ6 := Lib.hid q69
  have HB9 := Lib.hid hb9'
  clear qA9 q59 q69 hs3 hs4 hb9'
  have HK5 := Lib.hid hk59
  have HK6 := Lib.hid hk69
  have HKA := Lib.hid hkA9
  clear hk59 hk69 hkA9
  go_wp2_with fail
  obtain ⟨wZ, hwZ⟩ : ∃ W : World, W = ((w9.alloc (.cells #[.int .i64 0, .int .i64 65536, .int .i64 2, .int .i64 0, .slice none 0 0, .int .i64 0, .int .i64 65536, .int .i64 3, .int .i64 0, .slice none 0 0] 24)).alloc (.cells #[.int .i64 0, .int .i64 65536, .int .i64 1, .int .i64 0, .slice none 0 0, .int .i64 2, .int .i64 65536, .int .i64 0, .int .i64 0, .slice (some ⟨w9.heap.size, 0, none⟩) 2 2] 24)).alloc (.cells #[.int .i64 1, .int .i64 65536, .int .i64 0, .int .i64 0, .slice (some ⟨w9.heap.size + 1, 0, none⟩) 2 2] 24) := ⟨_, rfl⟩
  rewrite [← hwZ]
  have hz : Below w9.heap.size w9 wZ := by rw [hwZ]; exact (((Below.refl _ _).alloc (Nat.le_refl _) _).alloc (by simp) _).alloc (by simp; omega) _
  have z1 : Blk wZ w9.heap.size 24 #[.int .i64 0, .int .i64 65536, .int .i64 2, .int .i64 0, .slice none 0 0, .int .i64 0, .int .i64 65536, .int .i64 3, .int .i64 0, .slice none 0 0] := by rw [hwZ]; exact ((Blk.new w9 24 _).alloc _).alloc _
  have z2 : Blk wZ (w9.heap.size + 1) 24 #[.int .i64 0, .int .i64 65536, .int .i64 1, .int .i64 0, .slice none 0 0, .int .i64 2, .int .i64 65536, .int .i64 0, .int .i64 0, .slice (some ⟨w9.heap.size, 0, none⟩) 2 2] := by
    rw [hwZ]; have := (Blk.new (w9.alloc (.cells #[.int .i64 0, .int .i64 65536, .int .i64 2, .int .i64 0, .slice none 0 0, .int .i64 0, .int .i64 65536, .int .i64 3, .int .i64 0, .slice none 0 0] 24)) 24 #[.int .i64 0, .int .i64 65536, .int .i64 1, .int .i64 0, .slice none 0 0, .int .i64 2, .int .i64 65536, .int .i64 0, .int .i64 0, .slice (some ⟨w9.heap.size, 0, none⟩) 2 2]).alloc (.cells #[.int .i64 1, .int .i64 65536, .int .i64 0, .int .i64 0, .slice (some ⟨w9.heap.size + 1, 0, none⟩) 2 2] 24); rwa [World.size_alloc] at this
  have hk1 : KV wZ (fun _ => True) [leafT 2, leafT 3] (.slice (some ⟨w9.heap.size, 0, none⟩) 2 2) := KV.pair (x := leafT 2) (y := leafT 3) z1 trivial (KV.nil _ _ _ _) (leafT_fine (i64c _ (by decide)) [] _ rfl).1 (KV.nil _ _ _ _) (leafT_fine (i64c _ (by decide)) [] _ rfl).1
  have hk2 : KV wZ (fun _ => True) T3.ks (.slice (some ⟨w9.heap.size + 1, 0, none⟩) 2 2) := KV.pair (x := leafT 1) (y := .mk ⟨2, 65536, 0, 0⟩ [leafT 2, leafT 3]) z2 trivial (KV.nil _ _ _ _) (leafT_fine (i64c _ (by decide)) [] _ rfl).1 hk1 (spl_wide _ (by decide))
  have hz' := HB9.out.trans (hz.mono HB9.out.size)
  have qAZ := HQA.out.next hz
  have q6Z := HQ6.out.next hz
  have hk6Z := HK6.out.next hz
  have hkAZ := HKA.out.next hz
  refine (same_aw T3 rfl _ _ wZ (HK5.out.next hz) hk2).mono ?_
  rintro e w10 ⟨rfl, hb10⟩
  have hbX := Lib.hid (hz'.trans (hb10.mono hz'.size))
  have hkX := Lib.hid (hkAZ.next hb10)
  have hkY := Lib.hid (hk6Z.next hb10)
  obtain ⟨⟨x0, x1, x2, x3, x4⟩, -⟩ := c5 (qAZ.next hb10)
  obtain ⟨⟨y0, y1, y2, y3, y4⟩, -⟩ := c5 (q6Z.next hb10)
  clear hb10 hkAZ hk6Z qAZ q6Z hz' hk1 hk2 z1 z2 hz hwZ HQA HQ6 HK6 HKA HK5 HB9
  go_wp2_with fail
  refine (same_aw T1 rfl _ _ w10 hkY.out hkX.out).mono ?_
  rintro e w11 ⟨rfl, hb11⟩
  have hbW := hbX.out.trans (hb11.mono hbX.out.size)
  clear hb11
  go_wp2_with fail
  go_ret
  exact ⟨rfl, hbW⟩
end Go.Proofs.Ytbbmfpdlkogkfaa.Co
end
section
namespace Go.Proofs.Ytbbmfpdlkogkfaa.Co
open Go.RowKit Go.Shelf
/-- Both tell the same container. -/
theorem told_same {r q : Con × Int} {y z : Con} (h : r = q) (hy : y = if r.2 = 0 then r.1 else zeroT) (hz : z = if q.2 = 0 then q.1 else zeroT) : sameB y z = true := by
  subst h; rw [hy, hz]; exact sameB_refl _
theorem same_t {Z Z' : Nat → Prop} {y z : Con} {s u : Value} {w : World} (h : sameB y z = true) (h1 : KV w Z y.ks s) (h2 : KV w Z' z.ks u) : Calls Try.prog 21 #[conV y.a s, conV z.a u] w fun e w' => e = .returned (.bool true) ∧ Below w.heap.size w w' := by
  have := same_c Z Z' y z s u w h1 h2
  rwa [h] at this
theorem remove_fine {x : Con} {c : Int} (hf : fine x) (h : (removeD x c).2 = 0) : fine (removeD x c).1 := by
  rw [removeD_asked] at h ⊢
  by_cases h0 : askedI x c = 0
  · rw [if_pos h0]
    obtain ⟨a, ks⟩ := x
    obtain ⟨h1, h2, h3⟩ := fine_kids hf
    exact fine_mk h1 (Nat.le_trans (lessL_len c ks) h2) (lessL_fine h3)
  · rw [if_neg h0] at h; exact absurd h h0
set_option maxHeartbeats 4000000 in
theorem removes_c (x : Con) (sv : Value) (c : Int) (w : World) (hK : KV w (fun b => b < w.heap.size) x.ks sv) (hw : x.a.wide) :
    Calls Try.prog 6 #[conV x.a sv, .int .i64 c] w fun e w' => e = .returned (.bool true) ∧ Below w.heap.size w w' := by
  obtain ⟨p, cap, rfl, -⟩ := hK.slice
  obtain ⟨n, hn⟩ : ∃ n, n = x.ks.length := ⟨_, rfl⟩
  rw [← hn] at hK ⊢
  have hb0 := (Below.refl w.heap.size w).alloc (Nat.le_refl _) (.cells #[.int .i64 x.a.k, .int .i64 x.a.w, .int .i64 x.a.c, .int .i64 x.a.s, .slice p n cap] 24)
  have hq0 := Blk.new w 24 #[.int .i64 x.a.k, .int .i64 x.a.w, .int .i64 x.a.c, .int .i64 x.a.s, .slice p n cap]
  have HF := Lib.hid (few_c (fun b => b < w.heap.size) x (.slice p n cap) _ (hK.next hb0))
  have HB := Lib.hid hb0
  have HQ := Lib.hid hq0
  have HK := Lib.hid hK
  obtain ⟨dn, hdn⟩ : ∃ d, d = decide (nodesC x 0 ≤ 500) := ⟨_, rfl⟩
  rw [← hdn] at HF
  have HD := Lib.hid hdn
  have HW := Lib.hid hw
  clear hn hK hb0 hq0 hdn hw
  show Calls Try.prog 6 #[.agg #[.int .i64 x.a.k, .int .i64 x.a.w, .int .i64 x.a.c, .int .i64 x.a.s, .slice p n cap], .int .i64 c] w _
  go_enter Try.func6, Try.ntmps6
  go_wp2_with fail
  refine HF.out.mono ?_
  rintro e w1 ⟨rfl, hb⟩
  have hb1 := HB.out.trans (hb.mono HB.out.size)
  have HB1 := Lib.hid hb1
  have q1 := HQ.out.next hb
  have HQ1 := Lib.hid q1
  obtain ⟨⟨b0, b1, b2, b3, b4⟩, -⟩ := c5 q1
  clear hb hb1 HF HB q1
  cases dn
  · go_wp2_with fail
    refine (awake_c w1).mono ?_
    rintro e w2 ⟨rfl, hb⟩
    have HB2 := HB1.out.trans (hb.mono HB1.out.size)
    clear hb
    go_wp2_with fail
    go_ret
    exact ⟨rfl, HB2⟩
  · have hs := Small.of HK.out HW.out (of_decide_eq_true HD.out.symm)
    have HR := Lib.hid (remove_c x (.slice p n cap) c w1 (HK.out.next HB1.out).all HW.out hs.ht hs.wd)
    have HS := Lib.hid hs
    clear hs HD
    go_wp2_with fail
    refine HR.out.mono ?_
    rintro e w2 ⟨ht, hb⟩
    rw [show removeI x c = removeD x c from removeD_eq x c] at ht
    obtain ⟨y, s, rfl, hky, hy⟩ := ht.reads (fun h => remove_fine HS.out.f h)
    obtain ⟨py, ky, rfl, -⟩ := hky.slice
    obtain ⟨ny, hny⟩ : ∃ n, n = y.ks.length := ⟨_, rfl⟩
    rw [← hny] at hky ⊢
    obtain ⟨r, hr⟩ : ∃ r, r = removeD x c := ⟨_, rfl⟩
    rw [← hr] at hy ⊢
    obtain ⟨er, her⟩ : ∃ e, e = r.2 := ⟨_, rfl⟩
    rw [← her]
    have hb2 := HB1.out.trans (hb.mono HB1.out.size)
    have q2 := HQ1.out.next hb
    have HB2 := Lib.hid hb2
    have HQ2 := Lib.hid q2
    have HKY := Lib.hid hky
    have HY := Lib.hid hy
    have HRR := Lib.hid hr
    have HER := Lib.hid her
    clear hb hb2 HB1 HQ1 b0 b1 b2 b3 b4 hky hny hy hr her ht HR
    obtain ⟨⟨b0, b1, b2, b3, b4⟩, -⟩ := c5 q2
    have hs1 : w.heap.size < w2.heap.size := q2.lt
    have hs2 : w.heap.size ≠ w2.heap.size := Nat.ne_of_lt hs1
    clear q2
    go_wp2_with fail
    have hbN := HB2.out.alloc HB2.out.size (.cells #[.int .i64 y.a.k, .int .i64 y.a.w, .int .i64 y.a.c, .int .i64 y.a.s, .slice py ny ky] 24)
    have HKN := Lib.hid (HKY.out.alloc (.cells #[.int .i64 y.a.k, .int .i64 y.a.w, .int .i64 y.a.c, .int .i64 y.a.s, .slice py ny ky] 24))
    have HBN := Lib.hid hbN
    have HQN := Lib.hid (Blk.new w2 24 #[.int .i64 y.a.k, .int .i64 y.a.w, .int .i64 y.a.c, .int .i64 y.a.s, .slice py ny ky])
    refine (RemoveR_c c x (fun b => b < w.heap.size) (.slice p n cap) _ (HK.out.next hbN) (fun b h => Nat.lt_of_lt_of_le h hbN.size) HS.out.al HS.out.f).mono ?_
    rintro e w3 ⟨hb, z, s, rfl, hkz, hz⟩
    obtain ⟨pz, kz, rfl, -⟩ := hkz.slice
    obtain ⟨nz, hnz⟩ : ∃ n, n = z.ks.length := ⟨_, rfl⟩
    rw [← hnz] at hkz ⊢
    rw [← HRR.out] at hz ⊢
    rw [← HER.out]
    have hb3 := HBN.out.trans (hb.mono HBN.out.size)
    have HB3 := Lib.hid hb3
    have HKY3 := Lib.hid (HKN.out.next hb)
    have HKZ := Lib.hid hkz
    have HSM := Lib.hid (told_same (y := y) (z := z) rfl HY.out hz)
    obtain ⟨⟨b0, b1, b2, b3, b4⟩, -⟩ := c5 (HQN.out.next hb)
    have hs1 : w2.heap.size < w3.heap.size := (HQN.out.next hb).lt
    have hs2 : w2.heap.size ≠ w3.heap.size := Nat.ne_of_lt hs1
    clear hb hb3 hkz hnz hz HKN HQN HBN hbN HB2 HKY HY HRR HER
    go_wp2_with fail
    have hbN := HB3.out.alloc HB3.out.size (.cells #[.int .i64 z.a.k, .int .i64 z.a.w, .int .i64 z.a.c, .int .i64 z.a.s, .slice pz nz kz] 24)
    have HBN := Lib.hid hbN
    refine (same_t HSM.out (HKY3.out.alloc _) (HKZ.out.alloc _)).mono ?_
    rintro e w4 ⟨rfl, hb⟩
    have hb4 := HBN.out.trans (hb.mono HBN.out.size)
    have HB4 := Lib.hid hb4
    clear hb hb4 hbN HBN
    go_wp2_with fail
    refine (awake_c w4).mono ?_
    rintro e w5 ⟨rfl, hb⟩
    have hb5 := HB4.out.trans (hb.mono HB4.out.size)
    clear hb HB4
    go_wp2_with fail
    go_ret
    exact ⟨rfl, hb5⟩
end Go.Proofs.Ytbbmfpdlkogkfaa.Co
end
section
namespace Go.Proofs.Ytbbmfpdlkogkfaa.Co
open Go.RowKit Go.Shelf
theorem zeroT_fine : fine zeroT := fine_mk ⟨⟨by decide, by decide⟩, ⟨by decide, by decide⟩, ⟨by decide, by decide⟩, ⟨by decide, by decide⟩⟩ (by simp) (by simp)
theorem chg_fine {x : Con} {c : Int} {F : Con → List Nat → Con × Int} (h : ∀ u, fine (F x u).1) : fine (chgI x c F).1 := by
  unfold chgI
  split
  · exact zeroT_fine
  · split
    · exact h _
    · exact zeroT_fine
theorem turnF_fine {x : Con} {k : Int} {u : List Nat} (hf : fine x) (hk : I64 k) : fine (turnF k x u).1 := by
  unfold turnF
  split
  · rename_i p hp
    obtain ⟨⟨_, f1, f2, f3⟩, f4⟩ := hf _ p hp
    have := fine_get hf hp
    obtain ⟨a, ks⟩ := p
    exact fine_put hf (fine_mk ⟨hk, f1, f2, f3⟩ f4 (fine_kids this).2.2)
  · exact hf
theorem touchF_fine {x : Con} {k : Int} {u : List Nat} (hf : fine x) (hk : I64 k) : fine (touchF k x u).1 := by
  unfold touchF
  split
  · rename_i p hp
    obtain ⟨⟨f0, f1, f2, f3⟩, f4⟩ := hf _ p hp
    have := fine_get hf hp
    obtain ⟨a, ks⟩ := p
    exact fine_put hf (fine_mk ⟨f0, f1, f2, hk⟩ f4 (fine_kids this).2.2)
  · exact hf
theorem wrapF_fine {x : Con} {k : Int} {u : List Nat} (hf : fine x) (hk : I64 k) : fine (wrapF k x u).1 := by
  unfold wrapF
  split
  · rename_i p y hp hy
    obtain ⟨⟨_, f1, f2, f3⟩, f4⟩ := hf _ p hp
    obtain ⟨⟨g0, g1, g2, g3⟩, g4⟩ := hf _ y hy
    have h1 := fine_get hf hp
    have h2 := fine_get hf hy
    have h0 : I64 0 := ⟨by decide, by decide⟩
    split
    · obtain ⟨a, ks⟩ := p
      exact fine_put hf (fine_mk ⟨hk, f1, f2, f3⟩ f4 (fine_kids h1).2.2)
    · split
      · exact hf
      · obtain ⟨a, ks⟩ := y
        refine fine_put hf (fine_mk ⟨hk, g1, h0, h0⟩ (by simp) ?_)
        intro t ht
        rw [List.mem_singleton] at ht
        subst ht
        exact fine_mk ⟨g0, (show I64 65536 from ⟨by decide, by decide⟩), g2, g3⟩ g4 (fine_kids h2).2.2
  · exact hf
theorem wrap_fine {x : Con} {c k : Int} (hf : fine x) (hk : I64 k) : fine (wrapI x c k).1 := by
  unfold wrapI; split; exact chg_fine fun u => wrapF_fine hf hk; exact zeroT_fine
theorem turn_fine {x : Con} {c k : Int} (hf : fine x) (hk : I64 k) : fine (turnI x c k).1 := by
  unfold turnI; split; exact chg_fine fun u => turnF_fine hf hk; exact zeroT_fine
theorem touch_fine {x : Con} {c k : Int} (hf : fine x) (hk : I64 k) : fine (touchI x c k).1 := by
  unfold touchI; split; exact zeroT_fine; exact chg_fine fun u => touchF_fine hf hk
/-- What a call answers: an error's number, and a container. -/
def AnsR (B : Nat) (r : Con × Int) (W : World) (e : Ending) (w' : World) : Prop :=
  ∃ (y : Con) (p : Option Addr) (n k : Nat), e = .returned (.tuple #[.agg #[.int .i64 y.a.k, .int .i64 y.a.w, .int .i64 y.a.c, .int .i64 y.a.s, .slice p n k], .int .i64 r.2]) ∧ KV w' (fun b => b < B ∨ W.heap.size ≤ b) y.ks (.slice p n k) ∧ (y = if r.2 = 0 then r.1 else zeroT) ∧ Below W.heap.size W w'
theorem TellR.ans {B : Nat} {r : Con × Int} {W w' : World} {e : Ending} (h : TellR W.heap.size r e w') (hb : Below W.heap.size W w') (hf : fine r.1) : AnsR B r W e w' := by
  obtain ⟨y, s, h1, h2, h3⟩ := h.reads (fun _ => hf)
  obtain ⟨p, k, rfl, -⟩ := h2.slice
  exact ⟨y, p, _, k, h1, h2.weak (fun b h => .inr h), h3, hb⟩
theorem DocR.ans {B : Nat} {r : Con × Int} {W w' : World} {e : Ending} (h : DocR (fun b => b < B) r W e w') : AnsR B r W e w' := by
  obtain ⟨h0, y, s, h1, h2, h3⟩ := h
  obtain ⟨p, k, rfl, -⟩ := h2.slice
  exact ⟨y, p, _, k, h1, h2, h3, h0⟩
theorem swap_fine' {x : Con} {a b : Int} (hf : fine x) : fine (swapI x a b).1 := by
  unfold swapI
  split
  · exact zeroT_fine
  · split
    · exact zeroT_fine
    · split
      · rename_i v w _ _
        show fine (swapF v w x)
        have h0 : I64 0 := ⟨by decide, by decide⟩
        unfold swapF
        split
        · rename_i p q hp hq
          obtain ⟨⟨_, f1, f2, f3⟩, _⟩ := hf v p hp
          obtain ⟨⟨_, f4, f5, f6⟩, _⟩ := hf w q hq
          exact fine_put (fine_put hf (fine_mk ⟨h0, f1, f5, f6⟩ (by simp) (by simp))) (fine_mk ⟨h0, f4, f2, f3⟩ (by simp) (by simp))
        · exact hf
      · exact zeroT_fine
section
variable {x : Con} {p : Option Addr} {n cap : Nat} {w W : World}
theorem swap_ans (a b : Int) (hK : KV w (fun b => b < w.heap.size) x.ks (.slice p n cap)) (hs : Small x) (h : Below w.heap.size w W) : Calls Try.prog 35 #[.agg #[.int .i64 x.a.k, .int .i64 x.a.w, .int .i64 x.a.c, .int .i64 x.a.s, .slice p n cap], .int .i64 a, .int .i64 b] W (AnsR w.heap.size (swapI x a b) W) :=
  (Swap_c x (.slice p n cap) a b W (hK.next h).all hs.wide hs.ht hs.wd).mono fun _ _ h2 => h2.1.ans h2.2 (swap_fine' hs.f)
theorem swap_ansR (a b : Int) (hK : KV w (fun b => b < w.heap.size) x.ks (.slice p n cap)) (hs : Small x) (h : Below w.heap.size w W) : Calls Try.prog 36 #[.agg #[.int .i64 x.a.k, .int .i64 x.a.w, .int .i64 x.a.c, .int .i64 x.a.s, .slice p n cap], .int .i64 a, .int .i64 b] W (AnsR w.heap.size (swapI x a b) W) :=
  (SwapR_c a b x (fun b => b < w.heap.size) (.slice p n cap) W (hK.next h) (fun _ hb => Nat.lt_of_lt_of_le hb h.size) hs.al hs.f).mono fun _ _ h2 => h2.ans
theorem wrap_ans (a b : Int) (hb : I64 b) (hK : KV w (fun b => b < w.heap.size) x.ks (.slice p n cap)) (hs : Small x) (h : Below w.heap.size w W) : Calls Try.prog 37 #[.agg #[.int .i64 x.a.k, .int .i64 x.a.w, .int .i64 x.a.c, .int .i64 x.a.s, .slice p n cap], .int .i64 a, .int .i64 b] W (AnsR w.heap.size (wrapI x a b) W) :=
  (wrap_c x (.slice p n cap) a b W (hK.next h).all hs.wide hs.ht hs.wd).mono fun _ _ h2 => h2.1.ans h2.2 (wrap_fine hs.f hb)
theorem wrap_ansR (a b : Int) (_hb : I64 b) (hK : KV w (fun b => b < w.heap.size) x.ks (.slice p n cap)) (hs : Small x) (h : Below w.heap.size w W) : Calls Try.prog 38 #[.agg #[.int .i64 x.a.k, .int .i64 x.a.w, .int .i64 x.a.c, .int .i64 x.a.s, .slice p n cap], .int .i64 a, .int .i64 b] W (AnsR w.heap.size (wrapI x a b) W) :=
  (WrapR_c a b x (fun b => b < w.heap.size) (.slice p n cap) W (hK.next h) (fun _ hb => Nat.lt_of_lt_of_le hb h.size) hs.al hs.f).mono fun _ _ h2 => h2.ans
theorem turn_ans (a b : Int) (hb : I64 b) (hK : KV w (fun b => b < w.heap.size) x.ks (.slice p n cap)) (hs : Small x) (h : Below w.heap.size w W) : Calls Try.prog 39 #[.agg #[.int .i64 x.a.k, .int .i64 x.a.w, .int .i64 x.a.c, .int .i64 x.a.s, .slice p n cap], .int .i64 a, .int .i64 b] W (AnsR w.heap.size (turnI x a b) W) :=
  (turn_c x (.slice p n cap) a b W (hK.next h).all hs.wide hs.ht hs.wd).mono fun _ _ h2 => h2.1.ans h2.2 (turn_fine hs.f hb)
theorem turn_ansR (a b : Int) (_hb : I64 b) (hK : KV w (fun b => b < w.heap.size) x.ks (.slice p n cap)) (hs : Small x) (h : Below w.heap.size w W) : Calls Try.prog 40 #[.agg #[.int .i64 x.a.k, .int .i64 x.a.w, .int .i64 x.a.c, .int .i64 x.a.s, .slice p n cap], .int .i64 a, .int .i64 b] W (AnsR w.heap.size (turnI x a b) W) :=
  (TurnR_c a b x (fun b => b < w.heap.size) (.slice p n cap) W (hK.next h) (fun _ hb => Nat.lt_of_lt_of_le hb h.size) hs.al hs.f).mono fun _ _ h2 => h2.ans
theorem touch_ans (a b : Int) (hb : I64 b) (hK : KV w (fun b => b < w.heap.size) x.ks (.slice p n cap)) (hs : Small x) (h : Below w.heap.size w W) : Calls Try.prog 41 #[.agg #[.int .i64 x.a.k, .int .i64 x.a.w, .int .i64 x.a.c, .int .i64 x.a.s, .slice p n cap], .int .i64 a, .int .i64 b] W (AnsR w.heap.size (touchI x a b) W) :=
  (touch_c x (.slice p n cap) a b W (hK.next h).all hs.wide hs.ht hs.wd).mono fun _ _ h2 => h2.1.ans h2.2 (touch_fine hs.f hb)
theorem touch_ansR (a b : Int) (hb : I64 b) (hK : KV w (fun b => b < w.heap.size) x.ks (.slice p n cap)) (hs : Small x) (h : Below w.heap.size w W) : Calls Try.prog 42 #[.agg #[.int .i64 x.a.k, .int .i64 x.a.w, .int .i64 x.a.c, .int .i64 x.a.s, .slice p n cap], .int .i64 a, .int .i64 b] W (AnsR w.heap.size (touchI x a b) W) :=
  (TouchR_c a b x (fun b => b < w.heap.size) (.slice p n cap) W (hK.next h) (fun _ hb => Nat.lt_of_lt_of_le hb h.size) hs.al hs.f hb).mono fun _ _ h2 => h2.ans
end
end Go.Proofs.Ytbbmfpdlkogkfaa.Co
end
section
namespace Go.Proofs.Ytbbmfpdlkogkfaa.Co
open Go.RowKit Go.Shelf
theorem same_k {Z Z' : Nat → Prop} {y z : Con} {p q : Option Addr} {n n' c d : Nat} {w : World} (h : sameB y z = true) (h1 : KV w Z y.ks (.slice p n c)) (h2 : KV w Z' z.ks (.slice q n' d)) : Calls Try.prog 21 #[.agg #[.int .i64 y.a.k, .int .i64 y.a.w, .int .i64 y.a.c, .int .i64 y.a.s, .slice p n c], .agg #[.int .i64 z.a.k, .int .i64 z.a.w, .int .i64 z.a.c, .int .i64 z.a.s, .slice q n' d]] w fun e w' => e = .returned (.bool true) ∧ Below w.heap.size w w' := same_t h h1 h2
theorem hkA9 {w w' : World} {Z : Nat → Prop} {ks : List Con} {v : Value} (h : KV w Z ks v) (hb : Below w.heap.size w w') : KV w' Z ks v := h.next hb
set_option maxHeartbeats 4000000 in
set_option maxRecDepth 100000 in
theorem changes_c (x : Con) (sv : Value) (a b k : Int) (w : World) (hb : I64 b) (hk : I64 k) (hK : KV w (fun b => b < w.heap.size) x.ks sv) (hw : x.a.wide) :
    Calls Try.prog 7 #[conV x.a sv, .int .i64 a, .int .i64 b, .int .i64 k] w fun e w' => e = .returned (.bool true) ∧ Below w.heap.size w w' := by
  obtain ⟨p, cap, rfl, -⟩ := hK.slice
  obtain ⟨n, hn⟩ : ∃ n, n = x.ks.length := ⟨_, rfl⟩
  rw [← hn] at hK ⊢
  have hb0 := (Below.refl w.heap.size w).alloc (Nat.le_refl _) (.cells #[.int .i64 x.a.k, .int .i64 x.a.w, .int .i64 x.a.c, .int .i64 x.a.s, .slice p n cap] 24)
  have hq0 := Blk.new w 24 #[.int .i64 x.a.k, .int .i64 x.a.w, .int .i64 x.a.c, .int .i64 x.a.s, .slice p n cap]
  have HF := Lib.hid (few_c (fun b => b < w.heap.size) x (.slice p n cap) _ (hK.next hb0))
  have HB := Lib.hid hb0
  have HQ := Lib.hid hq0
  have HK := Lib.hid hK
  obtain ⟨dn, hdn⟩ : ∃ d, d = decide (nodesC x 0 ≤ 500) := ⟨_, rfl⟩
  rw [← hdn] at HF
  have HD := Lib.hid hdn
  have HW := Lib.hid hw
  have HIB := Lib.hid hb
  have HIK := Lib.hid hk
  clear hn hK hb0 hq0 hdn hw hb hk
  show Calls Try.prog 7 #[.agg #[.int .i64 x.a.k, .int .i64 x.a.w, .int .i64 x.a.c, .int .i64 x.a.s, .slice p n cap], .int .i64 a, .int .i64 b, .int .i64 k] w _
  go_enter Try.func7, Try.ntmps7
  go_wp2_with fail
  refine HF.out.mono ?_
  rintro e w1 ⟨rfl, hb⟩
  have hb1 := HB.out.trans (hb.mono HB.out.size)
  have HB1 := Lib.hid hb1
  have q1 := HQ.out.next hb
  have HQ1 := Lib.hid q1
  obtain ⟨⟨b0, b1, b2, b3, b4⟩, -⟩ := c5 q1
  clear hb hb1 HF HB q1
  cases dn
  · go_wp2_with fail
    refine (awake_c w1).mono ?_
    rintro e w2 ⟨rfl, hb⟩
    have HB2 := HB1.out.trans (hb.mono HB1.out.size)
    clear hb
    go_wp2_with fail
    go_ret
    exact ⟨rfl, HB2⟩
  · have hs := Small.of HK.out HW.out (of_decide_eq_true HD.out.symm)
    have HS := Lib.hid hs
    clear hs HD
    have HC := Lib.hid (swap_ans a b HK.out HS.out HB1.out)
    go_wp2_with fail
    refine HC.out.mono ?_
    rintro e wc0 ⟨y, py, ny, ky, rfl, hky, hy, hb⟩
    obtain ⟨r, hr⟩ : ∃ r, r = swapI x a b := ⟨_, rfl⟩
    rw [← hr] at hy ⊢
    obtain ⟨er, her⟩ : ∃ e, e = r.2 := ⟨_, rfl⟩
    rw [← her]
    have HR := Lib.hid hr
    have HER := Lib.hid her
    have HY := Lib.hid hy
    have HB2 := Lib.hid (HB1.out.trans (hb.mono HB1.out.size))
    have HQ2 := Lib.hid (HQ1.out.next hb)
    have HKY := Lib.hid hky
    clear hb hky hy hr her HC b0 b1 b2 b3 b4
    obtain ⟨⟨b0, b1, b2, b3, b4⟩, -⟩ := c5 HQ2.out
    have hs1 : w.heap.size < wc0.heap.size := HQ2.out.lt
    have hs2 : w.heap.size ≠ wc0.heap.size := Nat.ne_of_lt hs1
    have HD : Hid (∀ W, Below w.heap.size w W → Calls Try.prog 36 #[.agg #[.int .i64 x.a.k, .int .i64 x.a.w, .int .i64 x.a.c, .int .i64 x.a.s, .slice p n cap], .int .i64 a, .int .i64 b] W (AnsR w.heap.size (swapI x a b) W)) := fun W h => swap_ansR a b HK.out HS.out h
    go_upto_region 4 with fail
    have hbA := HB2.out.alloc HB2.out.size (.cells #[.int .i64 y.a.k, .int .i64 y.a.w, .int .i64 y.a.c, .int .i64 y.a.s, .slice py ny ky] 24)
    have hqA := Blk.new wc0 24 #[.int .i64 y.a.k, .int .i64 y.a.w, .int .i64 y.a.c, .int .i64 y.a.s, .slice py ny ky]
    have hqx := HQ2.out.alloc (.cells #[.int .i64 y.a.k, .int .i64 y.a.w, .int .i64 y.a.c, .int .i64 y.a.s, .slice py ny ky] 24)
    have hkA := HKY.out.alloc (.cells #[.int .i64 y.a.k, .int .i64 y.a.w, .int .i64 y.a.c, .int .i64 y.a.s, .slice py ny ky] 24)
    obtain ⟨v1, hv1⟩ : ∃ v1, v1 = wc0.alloc (.cells #[.int .i64 y.a.k, .int .i64 y.a.w, .int .i64 y.a.c, .int .i64 y.a.s, .slice py ny ky] 24) := ⟨_, rfl⟩
    obtain ⟨gA, hgA⟩ : ∃ g, g = wc0.heap.size := ⟨_, rfl⟩
    rw [← hv1] at hbA hqA hqx hkA ⊢
    rw [← hgA] at hqA hs1 ⊢
    have HGA := Lib.hid hqA
    have HLA : Hid (w.heap.size < gA) := hs1
    have HBA := Lib.hid hbA
    have HQA := Lib.hid hqx
    have HKA := Lib.hid hkA
    clear hv1 hgA hbA hqA hqx hkA b0 b1 b2 b3 b4 hs1 hs2 HKY HB2 HQ2
    obtain ⟨⟨b0, b1, b2, b3, b4⟩, -⟩ := c5 HQA.out
    go_wp2_with fail
    refine (HD.out _ HBA.out).mono ?_
    rintro e wd0 ⟨z, pz, nz, kz, rfl, hkz, hz, hb⟩
    rw [← HR.out] at hz ⊢
    rw [← HER.out]
    have HSM := Lib.hid (told_same (y := y) (z := z) rfl HY.out hz)
    have HB3 := Lib.hid (HBA.out.trans (hb.mono HBA.out.size))
    have HQ3 := Lib.hid (HQA.out.next hb)
    have HGA3 := Lib.hid (HGA.out.next hb)
    have HKY3 := Lib.hid (hkA9 HKA.out hb)
    have HKZ := Lib.hid hkz
    clear hb hkz hz HD HY HR HER HKA HGA HBA HQA b0 b1 b2 b3 b4
    obtain ⟨⟨b0, b1, b2, b3, b4⟩, -⟩ := c5 HQ3.out
    obtain ⟨⟨y0, y1, y2, y3, y4⟩, -⟩ := c5 HGA3.out
    have hs1 : w.heap.size < wd0.heap.size := HQ3.out.lt
    have hs2 : gA < wd0.heap.size := HGA3.out.lt
    have hs3 : gA ≠ wd0.heap.size := Nat.ne_of_lt hs2
    go_upto_region 5 with fail
    have hbA := HB3.out.alloc HB3.out.size (.cells #[.int .i64 z.a.k, .int .i64 z.a.w, .int .i64 z.a.c, .int .i64 z.a.s, .slice pz nz kz] 24)
    have hqB := Blk.new wd0 24 #[.int .i64 z.a.k, .int .i64 z.a.w, .int .i64 z.a.c, .int .i64 z.a.s, .slice pz nz kz]
    have hqx := HQ3.out.alloc (.cells #[.int .i64 z.a.k, .int .i64 z.a.w, .int .i64 z.a.c, .int .i64 z.a.s, .slice pz nz kz] 24)
    have hqA := HGA3.out.alloc (.cells #[.int .i64 z.a.k, .int .i64 z.a.w, .int .i64 z.a.c, .int .i64 z.a.s, .slice pz nz kz] 24)
    have hkA := HKY3.out.alloc (.cells #[.int .i64 z.a.k, .int .i64 z.a.w, .int .i64 z.a.c, .int .i64 z.a.s, .slice pz nz kz] 24)
    have hkB := HKZ.out.alloc (.cells #[.int .i64 z.a.k, .int .i64 z.a.w, .int .i64 z.a.c, .int .i64 z.a.s, .slice pz nz kz] 24)
    obtain ⟨v2, hv2⟩ : ∃ v2, v2 = wd0.alloc (.cells #[.int .i64 z.a.k, .int .i64 z.a.w, .int .i64 z.a.c, .int .i64 z.a.s, .slice pz nz kz] 24) := ⟨_, rfl⟩
    obtain ⟨gB, hgB⟩ : ∃ g, g = wd0.heap.size := ⟨_, rfl⟩
    rw [← hv2] at hbA hqA hqB hqx hkA hkB ⊢
    rw [← hgB] at hqB hs1 hs3 ⊢
    have HGA4 := Lib.hid hqA
    have HGB4 := Lib.hid hqB
    have HLB : Hid (w.heap.size < gB) := hs1
    have HNE : Hid (gA ≠ gB) := hs3
    have HB4 := Lib.hid hbA
    have HQ4 := Lib.hid hqx
    have HKY4 := Lib.hid hkA
    have HKZ4 := Lib.hid hkB
    clear hv2 hgB hbA hqA hqB hqx hkA hkB b0 b1 b2 b3 b4 y0 y1 y2 y3 y4 hs1 hs2 hs3 HGA3 HB3 HQ3 HKY3 HKZ
    obtain ⟨⟨b0, b1, b2, b3, b4⟩, -⟩ := c5 HQ4.out
    obtain ⟨⟨y0, y1, y2, y3, y4⟩, -⟩ := c5 HGA4.out
    obtain ⟨⟨z0, z1, z2, z3, z4⟩, -⟩ := c5 HGB4.out
    go_wp2_with fail
    refine (same_k HSM.out HKY4.out HKZ4.out).mono ?_
    rintro e ws0 ⟨rfl, hb⟩
    have HBp0 := Lib.hid (HB4.out.trans (hb.mono HB4.out.size))
    have HQp0 := Lib.hid (HQ4.out.next hb)
    have HGAp0 := Lib.hid (HGA4.out.next hb)
    have HGBp0 := Lib.hid (HGB4.out.next hb)
    clear hb HSM HKY4 HKZ4 HB4 HQ4 HGA4 HGB4 b0 b1 b2 b3 b4 y0 y1 y2 y3 y4 z0 z1 z2 z3 z4
    obtain ⟨⟨b0, b1, b2, b3, b4⟩, -⟩ := c5 HQp0.out
    have HC := Lib.hid (wrap_ans a k HIK.out HK.out HS.out HBp0.out)
    go_wp2_with fail
    refine HC.out.mono ?_
    rintro e wc1 ⟨y, py, ny, ky, rfl, hky, hy, hb⟩
    obtain ⟨r, hr⟩ : ∃ r, r = wrapI x a k := ⟨_, rfl⟩
    rw [← hr] at hy ⊢
    obtain ⟨er, her⟩ : ∃ e, e = r.2 := ⟨_, rfl⟩
    rw [← her]
    have HR := Lib.hid hr
    have HER := Lib.hid her
    have HY := Lib.hid hy
    have HB2 := Lib.hid (HBp0.out.trans (hb.mono HBp0.out.size))
    have HQ2 := Lib.hid (HQp0.out.next hb)
    have HGA2 := Lib.hid (HGAp0.out.next hb)
    have HGB2 := Lib.hid (HGBp0.out.next hb)
    have HKY := Lib.hid hky
    have HLW : Hid (gA < ws0.heap.size) := HGAp0.out.lt
    have HLV : Hid (gB < ws0.heap.size) := HGBp0.out.lt
    clear hb hky hy hr her HC b0 b1 b2 b3 b4
    obtain ⟨⟨b0, b1, b2, b3, b4⟩, -⟩ := c5 HQ2.out
    obtain ⟨⟨y0, y1, y2, y3, y4⟩, y5, y6, y7, y8, y9⟩ := c5 HGA2.out
    have HD : Hid (∀ W, Below w.heap.size w W → Calls Try.prog 38 #[.agg #[.int .i64 x.a.k, .int .i64 x.a.w, .int .i64 x.a.c, .int .i64 x.a.s, .slice p n cap], .int .i64 a, .int .i64 k] W (AnsR w.heap.size (wrapI x a k) W)) := fun W h => wrap_ansR a k HIK.out HK.out HS.out h
    go_upto_region 8 with fail
    obtain ⟨hbA, hqA, hne⟩ := st5_next HB2.out (Nat.le_of_lt HLA.out) HGA2.out (.int .i64 y.a.k) (.int .i64 y.a.w) (.int .i64 y.a.c) (.int .i64 y.a.s) (.slice py ny ky)
    have hqx := hne _ _ _ (Nat.ne_of_lt HLA.out) HQ2.out
    have hqB := hne _ _ _ (fun e => HNE.out e.symm) HGB2.out
    have hkA := KV.st5 (g := gA) (Z' := fun b => b < w.heap.size ∨ ws0.heap.size ≤ b) HKY.out (fun b hb => by have h1 := HLA.out; have h2 := HLW.out; omega) (fun b hb => hb) (.int .i64 y.a.k) (.int .i64 y.a.w) (.int .i64 y.a.c) (.int .i64 y.a.s) (.slice py ny ky)
    obtain ⟨v1, hv1⟩ : ∃ v1, v1 = st5 wc1 gA (.int .i64 y.a.k) (.int .i64 y.a.w) (.int .i64 y.a.c) (.int .i64 y.a.s) (.slice py ny ky) := ⟨_, rfl⟩
    rw [← hv1] at hbA hqA hqx hqB hkA
    unfold st5 at hv1
    rewrite [← hv1]
    have HGA9 := Lib.hid hqA
    have HGB9 := Lib.hid hqB
    have HBA := Lib.hid hbA
    have HQA := Lib.hid hqx
    have HKA := Lib.hid hkA
    clear hv1 hbA hqA hqB hqx hkA hne b0 b1 b2 b3 b4 y0 y1 y2 y3 y4 y5 y6 y7 y8 y9 HKY HB2 HQ2 HGA2 HGB2
    obtain ⟨⟨b0, b1, b2, b3, b4⟩, -⟩ := c5 HQA.out
    go_wp2_with fail
    refine (HD.out _ HBA.out).mono ?_
    rintro e wd1 ⟨z, pz, nz, kz, rfl, hkz, hz, hb⟩
    rw [← HR.out] at hz ⊢
    rw [← HER.out]
    have HSM := Lib.hid (told_same (y := y) (z := z) rfl HY.out hz)
    have HB3 := Lib.hid (HBA.out.trans (hb.mono HBA.out.size))
    have HQ3 := Lib.hid (HQA.out.next hb)
    have HGA3 := Lib.hid (HGA9.out.next hb)
    have HGB3 := Lib.hid (HGB9.out.next hb)
    have HKY3 := Lib.hid (hkA9 HKA.out hb)
    have HKZ := Lib.hid hkz
    have HLV1 : Hid (gB < v1.heap.size) := HGB9.out.lt
    clear hb hkz hz HD HY HR HER HKA HGA9 HGB9 HBA HQA b0 b1 b2 b3 b4
    obtain ⟨⟨b0, b1, b2, b3, b4⟩, -⟩ := c5 HQ3.out
    obtain ⟨⟨y0, y1, y2, y3, y4⟩, y5, y6, y7, y8, y9⟩ := c5 HGB3.out
    go_upto_region 9 with fail
    obtain ⟨hbA, hqB, hne⟩ := st5_next HB3.out (Nat.le_of_lt HLB.out) HGB3.out (.int .i64 z.a.k) (.int .i64 z.a.w) (.int .i64 z.a.c) (.int .i64 z.a.s) (.slice pz nz kz)
    have hqx := hne _ _ _ (Nat.ne_of_lt HLB.out) HQ3.out
    have hqA := hne _ _ _ HNE.out HGA3.out
    have hkA := KV.st5 (g := gB) (Z' := fun b => b < w.heap.size ∨ ws0.heap.size ≤ b) HKY3.out (fun b hb => by have h1 := HLB.out; have h2 := HLV.out; omega) (fun b hb => hb) (.int .i64 z.a.k) (.int .i64 z.a.w) (.int .i64 z.a.c) (.int .i64 z.a.s) (.slice pz nz kz)
    have hkB := KV.st5 (g := gB) (Z' := fun b => b < w.heap.size ∨ v1.heap.size ≤ b) HKZ.out (fun b hb => by have h1 := HLB.out; have h2 := HLV1.out; omega) (fun b hb => hb) (.int .i64 z.a.k) (.int .i64 z.a.w) (.int .i64 z.a.c) (.int .i64 z.a.s) (.slice pz nz kz)
    obtain ⟨v2, hv2⟩ : ∃ v2, v2 = st5 wd1 gB (.int .i64 z.a.k) (.int .i64 z.a.w) (.int .i64 z.a.c) (.int .i64 z.a.s) (.slice pz nz kz) := ⟨_, rfl⟩
    rw [← hv2] at hbA hqA hqB hqx hkA hkB
    unfold st5 at hv2
    rewrite [← hv2]
    have HGA4 := Lib.hid hqA
    have HGB4 := Lib.hid hqB
    have HB4 := Lib.hid hbA
    have HQ4 := Lib.hid hqx
    have HKY4 := Lib.hid hkA
    have HKZ4 := Lib.hid hkB
    clear hv2 hbA hqA hqB hqx hkA hkB hne b0 b1 b2 b3 b4 y0 y1 y2 y3 y4 y5 y6 y7 y8 y9 HGA3 HGB3 HB3 HQ3 HKY3 HKZ HGAp0 HGBp0
    obtain ⟨⟨b0, b1, b2, b3, b4⟩, -⟩ := c5 HQ4.out
    obtain ⟨⟨y0, y1, y2, y3, y4⟩, -⟩ := c5 HGA4.out
    obtain ⟨⟨z0, z1, z2, z3, z4⟩, -⟩ := c5 HGB4.out
    go_wp2_with fail
    refine (same_k HSM.out HKY4.out HKZ4.out).mono ?_
    rintro e ws1 ⟨rfl, hb⟩
    have HBp1 := Lib.hid (HB4.out.trans (hb.mono HB4.out.size))
    have HQp1 := Lib.hid (HQ4.out.next hb)
    have HGAp1 := Lib.hid (HGA4.out.next hb)
    have HGBp1 := Lib.hid (HGB4.out.next hb)
    clear hb HSM HKY4 HKZ4 HB4 HQ4 HGA4 HGB4 b0 b1 b2 b3 b4 y0 y1 y2 y3 y4 z0 z1 z2 z3 z4
    obtain ⟨⟨b0, b1, b2, b3, b4⟩, -⟩ := c5 HQp1.out
    have HC := Lib.hid (turn_ans a k HIK.out HK.out HS.out HBp1.out)
    go_wp2_with fail
    refine HC.out.mono ?_
    rintro e wc2 ⟨y, py, ny, ky, rfl, hky, hy, hb⟩
    obtain ⟨r, hr⟩ : ∃ r, r = turnI x a k := ⟨_, rfl⟩
    rw [← hr] at hy ⊢
    obtain ⟨er, her⟩ : ∃ e, e = r.2 := ⟨_, rfl⟩
    rw [← her]
    have HR := Lib.hid hr
    have HER := Lib.hid her
    have HY := Lib.hid hy
    have HB2 := Lib.hid (HBp1.out.trans (hb.mono HBp1.out.size))
    have HQ2 := Lib.hid (HQp1.out.next hb)
    have HGA2 := Lib.hid (HGAp1.out.next hb)
    have HGB2 := Lib.hid (HGBp1.out.next hb)
    have HKY := Lib.hid hky
    have HLW : Hid (gA < ws1.heap.size) := HGAp1.out.lt
    have HLV : Hid (gB < ws1.heap.size) := HGBp1.out.lt
    clear hb hky hy hr her HC b0 b1 b2 b3 b4
    obtain ⟨⟨b0, b1, b2, b3, b4⟩, -⟩ := c5 HQ2.out
    obtain ⟨⟨y0, y1, y2, y3, y4⟩, y5, y6, y7, y8, y9⟩ := c5 HGA2.out
    have HD : Hid (∀ W, Below w.heap.size w W → Calls Try.prog 40 #[.agg #[.int .i64 x.a.k, .int .i64 x.a.w, .int .i64 x.a.c, .int .i64 x.a.s, .slice p n cap], .int .i64 a, .int .i64 k] W (AnsR w.heap.size (turnI x a k) W)) := fun W h => turn_ansR a k HIK.out HK.out HS.out h
    go_upto_region 12 with fail
    obtain ⟨hbA, hqA, hne⟩ := st5_next HB2.out (Nat.le_of_lt HLA.out) HGA2.out (.int .i64 y.a.k) (.int .i64 y.a.w) (.int .i64 y.a.c) (.int .i64 y.a.s) (.slice py ny ky)
    have hqx := hne _ _ _ (Nat.ne_of_lt HLA.out) HQ2.out
    have hqB := hne _ _ _ (fun e => HNE.out e.symm) HGB2.out
    have hkA := KV.st5 (g := gA) (Z' := fun b => b < w.heap.size ∨ ws1.heap.size ≤ b) HKY.out (fun b hb => by have h1 := HLA.out; have h2 := HLW.out; omega) (fun b hb => hb) (.int .i64 y.a.k) (.int .i64 y.a.w) (.int .i64 y.a.c) (.int .i64 y.a.s) (.slice py ny ky)
    obtain ⟨v1, hv1⟩ : ∃ v1, v1 = st5 wc2 gA (.int .i64 y.a.k) (.int .i64 y.a.w) (.int .i64 y.a.c) (.int .i64 y.a.s) (.slice py ny ky) := ⟨_, rfl⟩
    rw [← hv1] at hbA hqA hqx hqB hkA
    unfold st5 at hv1
    rewrite [← hv1]
    have HGA9 := Lib.hid hqA
    have HGB9 := Lib.hid hqB
    have HBA := Lib.hid hbA
    have HQA := Lib.hid hqx
    have HKA := Lib.hid hkA
    clear hv1 hbA hqA hqB hqx hkA hne b0 b1 b2 b3 b4 y0 y1 y2 y3 y4 y5 y6 y7 y8 y9 HKY HB2 HQ2 HGA2 HGB2
    obtain ⟨⟨b0, b1, b2, b3, b4⟩, -⟩ := c5 HQA.out
    go_wp2_with fail
    refine (HD.out _ HBA.out).mono ?_
    rintro e wd2 ⟨z, pz, nz, kz, rfl, hkz, hz, hb⟩
    rw [← HR.out] at hz ⊢
    rw [← HER.out]
    have HSM := Lib.hid (told_same (y := y) (z := z) rfl HY.out hz)
    have HB3 := Lib.hid (HBA.out.trans (hb.mono HBA.out.size))
    have HQ3 := Lib.hid (HQA.out.next hb)
    have HGA3 := Lib.hid (HGA9.out.next hb)
    have HGB3 := Lib.hid (HGB9.out.next hb)
    have HKY3 := Lib.hid (hkA9 HKA.out hb)
    have HKZ := Lib.hid hkz
    have HLV1 : Hid (gB < v1.heap.size) := HGB9.out.lt
    clear hb hkz hz HD HY HR HER HKA HGA9 HGB9 HBA HQA b0 b1 b2 b3 b4
    obtain ⟨⟨b0, b1, b2, b3, b4⟩, -⟩ := c5 HQ3.out
    obtain ⟨⟨y0, y1, y2, y3, y4⟩, y5, y6, y7, y8, y9⟩ := c5 HGB3.out
    go_upto_region 13 with fail
    obtain ⟨hbA, hqB, hne⟩ := st5_next HB3.out (Nat.le_of_lt HLB.out) HGB3.out (.int .i64 z.a.k) (.int .i64 z.a.w) (.int .i64 z.a.c) (.int .i64 z.a.s) (.slice pz nz kz)
    have hqx := hne _ _ _ (Nat.ne_of_lt HLB.out) HQ3.out
    have hqA := hne _ _ _ HNE.out HGA3.out
    have hkA := KV.st5 (g := gB) (Z' := fun b => b < w.heap.size ∨ ws1.heap.size ≤ b) HKY3.out (fun b hb => by have h1 := HLB.out; have h2 := HLV.out; omega) (fun b hb => hb) (.int .i64 z.a.k) (.int .i64 z.a.w) (.int .i64 z.a.c) (.int .i64 z.a.s) (.slice pz nz kz)
    have hkB := KV.st5 (g := gB) (Z' := fun b => b < w.heap.size ∨ v1.heap.size ≤ b) HKZ.out (fun b hb => by have h1 := HLB.out; have h2 := HLV1.out; omega) (fun b hb => hb) (.int .i64 z.a.k) (.int .i64 z.a.w) (.int .i64 z.a.c) (.int .i64 z.a.s) (.slice pz nz kz)
    obtain ⟨v2, hv2⟩ : ∃ v2, v2 = st5 wd2 gB (.int .i64 z.a.k) (.int .i64 z.a.w) (.int .i64 z.a.c) (.int .i64 z.a.s) (.slice pz nz kz) := ⟨_, rfl⟩
    rw [← hv2] at hbA hqA hqB hqx hkA hkB
    unfold st5 at hv2
    rewrite [← hv2]
    have HGA4 := Lib.hid hqA
    have HGB4 := Lib.hid hqB
    have HB4 := Lib.hid hbA
    have HQ4 := Lib.hid hqx
    have HKY4 := Lib.hid hkA
    have HKZ4 := Lib.hid hkB
    clear hv2 hbA hqA hqB hqx hkA hkB hne b0 b1 b2 b3 b4 y0 y1 y2 y3 y4 y5 y6 y7 y8 y9 HGA3 HGB3 HB3 HQ3 HKY3 HKZ HGAp1 HGBp1
    obtain ⟨⟨b0, b1, b2, b3, b4⟩, -⟩ := c5 HQ4.out
    obtain ⟨⟨y0, y1, y2, y3, y4⟩, -⟩ := c5 HGA4.out
    obtain ⟨⟨z0, z1, z2, z3, z4⟩, -⟩ := c5 HGB4.out
    go_wp2_with fail
    refine (same_k HSM.out HKY4.out HKZ4.out).mono ?_
    rintro e ws2 ⟨rfl, hb⟩
    have HBp2 := Lib.hid (HB4.out.trans (hb.mono HB4.out.size))
    have HQp2 := Lib.hid (HQ4.out.next hb)
    have HGAp2 := Lib.hid (HGA4.out.next hb)
    have HGBp2 := Lib.hid (HGB4.out.next hb)
    clear hb HSM HKY4 HKZ4 HB4 HQ4 HGA4 HGB4 b0 b1 b2 b3 b4 y0 y1 y2 y3 y4 z0 z1 z2 z3 z4
    obtain ⟨⟨b0, b1, b2, b3, b4⟩, -⟩ := c5 HQp2.out
    have HC := Lib.hid (touch_ans a b HIB.out HK.out HS.out HBp2.out)
    go_wp2_with fail
    refine HC.out.mono ?_
    rintro e wc3 ⟨y, py, ny, ky, rfl, hky, hy, hb⟩
    obtain ⟨r, hr⟩ : ∃ r, r = touchI x a b := ⟨_, rfl⟩
    rw [← hr] at hy ⊢
    obtain ⟨er, her⟩ : ∃ e, e = r.2 := ⟨_, rfl⟩
    rw [← her]
    have HR := Lib.hid hr
    have HER := Lib.hid her
    have HY := Lib.hid hy
    have HB2 := Lib.hid (HBp2.out.trans (hb.mono HBp2.out.size))
    have HQ2 := Lib.hid (HQp2.out.next hb)
    have HGA2 := Lib.hid (HGAp2.out.next hb)
    have HGB2 := Lib.hid (HGBp2.out.next hb)
    have HKY := Lib.hid hky
    have HLW : Hid (gA < ws2.heap.size) := HGAp2.out.lt
    have HLV : Hid (gB < ws2.heap.size) := HGBp2.out.lt
    clear hb hky hy hr her HC b0 b1 b2 b3 b4
    obtain ⟨⟨b0, b1, b2, b3, b4⟩, -⟩ := c5 HQ2.out
    obtain ⟨⟨y0, y1, y2, y3, y4⟩, y5, y6, y7, y8, y9⟩ := c5 HGA2.out
    have HD : Hid (∀ W, Below w.heap.size w W → Calls Try.prog 42 #[.agg #[.int .i64 x.a.k, .int .i64 x.a.w, .int .i64 x.a.c, .int .i64 x.a.s, .slice p n cap], .int .i64 a, .int .i64 b] W (AnsR w.heap.size (touchI x a b) W)) := fun W h => touch_ansR a b HIB.out HK.out HS.out h
    go_upto_region 16 with fail
    obtain ⟨hbA, hqA, hne⟩ := st5_next HB2.out (Nat.le_of_lt HLA.out) HGA2.out (.int .i64 y.a.k) (.int .i64 y.a.w) (.int .i64 y.a.c) (.int .i64 y.a.s) (.slice py ny ky)
    have hqx := hne _ _ _ (Nat.ne_of_lt HLA.out) HQ2.out
    have hqB := hne _ _ _ (fun e => HNE.out e.symm) HGB2.out
    have hkA := KV.st5 (g := gA) (Z' := fun b => b < w.heap.size ∨ ws2.heap.size ≤ b) HKY.out (fun b hb => by have h1 := HLA.out; have h2 := HLW.out; omega) (fun b hb => hb) (.int .i64 y.a.k) (.int .i64 y.a.w) (.int .i64 y.a.c) (.int .i64 y.a.s) (.slice py ny ky)
    obtain ⟨v1, hv1⟩ : ∃ v1, v1 = st5 wc3 gA (.int .i64 y.a.k) (.int .i64 y.a.w) (.int .i64 y.a.c) (.int .i64 y.a.s) (.slice py ny ky) := ⟨_, rfl⟩
    rw [← hv1] at hbA hqA hqx hqB hkA
    unfold st5 at hv1
    rewrite [← hv1]
    have HGA9 := Lib.hid hqA
    have HGB9 := Lib.hid hqB
    have HBA := Lib.hid hbA
    have HQA := Lib.hid hqx
    have HKA := Lib.hid hkA
    clear hv1 hbA hqA hqB hqx hkA hne b0 b1 b2 b3 b4 y0 y1 y2 y3 y4 y5 y6 y7 y8 y9 HKY HB2 HQ2 HGA2 HGB2
    obtain ⟨⟨b0, b1, b2, b3, b4⟩, -⟩ := c5 HQA.out
    go_wp2_with fail
    refine (HD.out _ HBA.out).mono ?_
    rintro e wd3 ⟨z, pz, nz, kz, rfl, hkz, hz, hb⟩
    rw [← HR.out] at hz ⊢
    rw [← HER.out]
    have HSM := Lib.hid (told_same (y := y) (z := z) rfl HY.out hz)
    have HB3 := Lib.hid (HBA.out.trans (hb.mono HBA.out.size))
    have HQ3 := Lib.hid (HQA.out.next hb)
    have HGA3 := Lib.hid (HGA9.out.next hb)
    have HGB3 := Lib.hid (HGB9.out.next hb)
    have HKY3 := Lib.hid (hkA9 HKA.out hb)
    have HKZ := Lib.hid hkz
    have HLV1 : Hid (gB < v1.heap.size) := HGB9.out.lt
    clear hb hkz hz HD HY HR HER HKA HGA9 HGB9 HBA HQA b0 b1 b2 b3 b4
    obtain ⟨⟨b0, b1, b2, b3, b4⟩, -⟩ := c5 HQ3.out
    obtain ⟨⟨y0, y1, y2, y3, y4⟩, y5, y6, y7, y8, y9⟩ := c5 HGB3.out
    go_upto_region 17 with fail
    obtain ⟨hbA, hqB, hne⟩ := st5_next HB3.out (Nat.le_of_lt HLB.out) HGB3.out (.int .i64 z.a.k) (.int .i64 z.a.w) (.int .i64 z.a.c) (.int .i64 z.a.s) (.slice pz nz kz)
    have hqx := hne _ _ _ (Nat.ne_of_lt HLB.out) HQ3.out
    have hqA := hne _ _ _ HNE.out HGA3.out
    have hkA := KV.st5 (g := gB) (Z' := fun b => b < w.heap.size ∨ ws2.heap.size ≤ b) HKY3.out (fun b hb => by have h1 := HLB.out; have h2 := HLV.out; omega) (fun b hb => hb) (.int .i64 z.a.k) (.int .i64 z.a.w) (.int .i64 z.a.c) (.int .i64 z.a.s) (.slice pz nz kz)
    have hkB := KV.st5 (g := gB) (Z' := fun b => b < w.heap.size ∨ v1.heap.size ≤ b) HKZ.out (fun b hb => by have h1 := HLB.out; have h2 := HLV1.out; omega) (fun b hb => hb) (.int .i64 z.a.k) (.int .i64 z.a.w) (.int .i64 z.a.c) (.int .i64 z.a.s) (.slice pz nz kz)
    obtain ⟨v2, hv2⟩ : ∃ v2, v2 = st5 wd3 gB (.int .i64 z.a.k) (.int .i64 z.a.w) (.int .i64 z.a.c) (.int .i64 z.a.s) (.slice pz nz kz) := ⟨_, rfl⟩
    rw [← hv2] at hbA hqA hqB hqx hkA hkB
    unfold st5 at hv2
    rewrite [← hv2]
    have HGA4 := Lib.hid hqA
    have HGB4 := Lib.hid hqB
    have HB4 := Lib.hid hbA
    have HQ4 := Lib.hid hqx
    have HKY4 := Lib.hid hkA
    have HKZ4 := Lib.hid hkB
    clear hv2 hbA hqA hqB hqx hkA hkB hne b0 b1 b2 b3 b4 y0 y1 y2 y3 y4 y5 y6 y7 y8 y9 HGA3 HGB3 HB3 HQ3 HKY3 HKZ HGAp2 HGBp2
    obtain ⟨⟨b0, b1, b2, b3, b4⟩, -⟩ := c5 HQ4.out
    obtain ⟨⟨y0, y1, y2, y3, y4⟩, -⟩ := c5 HGA4.out
    obtain ⟨⟨z0, z1, z2, z3, z4⟩, -⟩ := c5 HGB4.out
    go_wp2_with fail
    refine (same_k HSM.out HKY4.out HKZ4.out).mono ?_
    rintro e ws3 ⟨rfl, hb⟩
    have HBp3 := Lib.hid (HB4.out.trans (hb.mono HB4.out.size))
    have HQp3 := Lib.hid (HQ4.out.next hb)
    have HGAp3 := Lib.hid (HGA4.out.next hb)
    have HGBp3 := Lib.hid (HGB4.out.next hb)
    clear hb HSM HKY4 HKZ4 HB4 HQ4 HGA4 HGB4 b0 b1 b2 b3 b4 y0 y1 y2 y3 y4 z0 z1 z2 z3 z4
    obtain ⟨⟨b0, b1, b2, b3, b4⟩, -⟩ := c5 HQp3.out
    go_wp2_with fail
    refine (awake_c ws3).mono ?_
    rintro e w5 ⟨rfl, hb⟩
    have hb5 := HBp3.out.trans (hb.mono HBp3.out.size)
    clear hb
    go_wp2_with fail
    go_ret
    exact ⟨rfl, hb5⟩
end Go.Proofs.Ytbbmfpdlkogkfaa.Co
end
section
namespace Go.Proofs.Ytbbmfpdlkogkfaa.Co
open Go.RowKit Go.Shelf
theorem clients_mk {a : D} {ks : List Con} (hk : a.k ≠ 0) : clients (.mk a ks) = ks.flatMap clients := by
  unfold clients
  rw [all_kid hk, List.map_flatMap]
theorem clients_w {x : Con} {d : D} (h1 : d.k = x.a.k) (h2 : d.c = x.a.c) : clients (.mk d x.ks) = clients x := by
  obtain ⟨a, ks⟩ := x
  simp only [Tr.a_mk, Tr.ks_mk] at h1 h2 ⊢
  by_cases hk : a.k = 0
  · rw [clients_leaf (y := .mk a ks) hk, clients_leaf (y := .mk d ks) (by rw [Tr.a_mk, h1]; exact hk)]
    simp only [Tr.a_mk, h2]
  · rw [clients_mk hk, clients_mk (by rw [h1]; exact hk)]
theorem split_shape {a : D} {ks : List Con} {d : Nat} (h : shape (.mk a ks) d = true) (hk : a.k ≠ 0) : d ≤ 8 ∧ 1 ≤ a.w ∧ a.w ≤ 1048576 ∧ 1 ≤ a.k ∧ a.k ≤ 4 ∧ a.c = 0 ∧ a.s = 0 ∧ ks.length ≤ 64 ∧ (d = 0 ∨ 0 < ks.length) ∧ ∀ x ∈ ks, shape x (d + 1) = true := by
  have hh := h
  simp only [shape, Bool.and_eq_true] at h
  have h1 := h.1
  unfold soundB at h1
  split at h1
  · cases h1
  · rename_i h2
    simp only [Tr.a_mk] at h2
    rw [if_neg (by simpa using hk)] at h1
    have h1 := of_decide_eq_true h1
    simp only [Tr.a_mk, Tr.ks_mk] at h1
    obtain ⟨h3, h4, h5, h6, h7, h8⟩ := h1
    exact ⟨by omega, by omega, by omega, h3, h4, h5, h6, h7, h8, fun x hx => shape_kid hh hx⟩
theorem shape_splitI {a : D} {ks : List Con} {d : Nat} (h1 : d ≤ 8) (h2 : 1 ≤ a.w) (h3 : a.w ≤ 1048576) (h4 : 1 ≤ a.k) (h5 : a.k ≤ 4) (h6 : a.c = 0) (h7 : a.s = 0) (h8 : ks.length ≤ 64) (h9 : d = 0 ∨ 0 < ks.length) (h : ∀ x ∈ ks, shape x (d + 1) = true) : shape (.mk a ks) d = true := by
  simp only [shape, Bool.and_eq_true]
  refine ⟨?_, shapeL_of h⟩
  unfold soundB
  rw [if_neg (by simp only [Tr.a_mk]; omega), if_neg (by simp only [Tr.a_mk]; omega)]
  exact decide_eq_true ⟨h4, h5, h6, h7, h8, h9⟩
/-- A tree is a split. -/
theorem tree_k {x : Con} (h : treeB x = true) : x.a.k ≠ 0 := tree_root h
/-- Another weight. -/
theorem shape_w {x : Con} {n : Int} {d : Nat} (h : shape x d = true) (h1 : 1 ≤ n) (h2 : n ≤ 1048576) : shape (.mk { x.a with w := n } x.ks) d = true := by
  obtain ⟨a, ks⟩ := x
  by_cases hk : a.k = 0
  · obtain ⟨p1, p2, p3, p4, p5, p6⟩ := leaf_shape h hk
    have hl := shape_leaf h hk
    simp only [Tr.a_mk, Tr.ks_mk] at *
    subst hl
    have := shape_leafI (w := n) p1 p2 h1 h2 p5 p6
    rw [← hk] at this
    exact this
  · obtain ⟨p1, p2, p3, p4, p5, p6, p7, p8, p9, p10⟩ := split_shape h hk
    exact shape_splitI (a := { a with w := n }) p1 h1 h2 p4 p5 p6 p7 p8 p9 p10
theorem tree_w {x y : Con} {u : List Nat} {n : Int} (h : treeB x = true) (hy : get x u = some y) (h1 : 1 ≤ n) (h2 : n ≤ 1048576) :
    treeB (put x u (.mk { y.a with w := n } y.ks)) = true ∧ clients (put x u (.mk { y.a with w := n } y.ks)) = clients x ∧ cnt (put x u (.mk { y.a with w := n } y.ks)) = cnt x := by
  have hs := shape_get (tree_parts h).1 hy
  rw [Nat.zero_add] at hs
  obtain ⟨h3, h4⟩ := tree_put (s' := .mk { y.a with w := n } y.ks) h hy (shape_w hs h1 h2) (clients_w rfl rfl)
  have h5 := cnt_put (s' := .mk { y.a with w := n } y.ks) hy
  have h6 : cnt (.mk { y.a with w := n } y.ks) = cnt y := by obtain ⟨a, ks⟩ := y; rw [cnt_mk, cnt_mk]; rfl
  exact ⟨h3, h4, by omega⟩
theorem wrap_tree {x : Con} {c k : Int} (h : treeB x = true) (h0 : (wrapI x c k).2 = 0) : treeB (wrapI x c k).1 = true ∧ clients (wrapI x c k).1 = clients x ∧ cnt (wrapI x c k).1 ≤ cnt x + 1 := by
  unfold wrapI at h0 ⊢
  by_cases hs : splitB k = true
  · rw [if_pos hs] at h0 ⊢
    have hk : 1 ≤ k ∧ k ≤ 4 := by unfold splitB at hs; simpa using hs
    rcases findI_spec (c := c) h with ⟨h1, _⟩ | ⟨_, u, hu, _⟩
    · rw [chgI_none h h1] at h0; exact absurd h0 (by decide)
    rw [chgI_some h hu] at h0 ⊢
    obtain ⟨v, j, p, y, rfl, hp, hpy, hy0, hyc, hy⟩ := id hu
    unfold wrapF at h0 ⊢
    rw [List.dropLast_concat, hp, hy] at h0 ⊢
    simp only at h0 ⊢
    have hsp := shape_get (tree_parts h).1 hp
    have hsy := shape_get (tree_parts h).1 hy
    rw [Nat.zero_add] at hsp hsy
    by_cases h1 : p.ks.length = 1
    · rw [if_pos h1] at h0 ⊢
      obtain ⟨a, ks⟩ := p
      have hk0 : a.k ≠ 0 := fun e => by have := shape_leaf hsp e; simp only [Tr.ks_mk] at this hpy; rw [this] at hpy; cases hpy
      obtain ⟨p1, p2, p3, p4, p5, p6, p7, p8, p9, p10⟩ := split_shape hsp hk0
      obtain ⟨h3, h4⟩ := tree_put (s' := .mk { a with k := k } ks) h hp (shape_splitI (a := { a with k := k }) p1 p2 p3 hk.1 hk.2 p6 p7 p8 p9 p10) (by rw [clients_mk hk0, clients_mk (a := { a with k := k }) (by simp only; omega)])
      have h5 := cnt_put (s' := .mk { a with k := k } ks) hp
      have h6 : cnt (.mk { a with k := k } ks) = cnt (.mk a ks) := by rw [cnt_mk, cnt_mk]
      exact ⟨h3, h4, by simp only [Tr.a_mk, Tr.ks_mk]; omega⟩
    · rw [if_neg h1] at h0 ⊢
      by_cases h8 : (v ++ [j]).length = 8
      · rw [if_pos h8] at h0; exact absurd h0 (by show ¬ (2 : Int) = 0; decide)
      · rw [if_neg h8] at h0 ⊢
        obtain ⟨q1, q2, q3, q4, q5, q6⟩ := leaf_shape hsy hy0
        have hyl := shape_leaf hsy hy0
        have e1 : (Tr.mk { y.a with w := 65536 } y.ks : Con) = .mk ⟨0, 65536, y.a.c, y.a.s⟩ [] := by rw [hyl]; obtain ⟨⟨k1, w1, c1, s1⟩, l⟩ := y; simp only [Tr.a_mk] at hy0 ⊢; subst hy0; rfl
        rw [e1]
        have hleaf := shape_leafI (w := 65536) (d := (v ++ [j]).length + 1) (by omega) (by omega) (by decide) (by decide) q5 q6
        obtain ⟨h3, h4⟩ := tree_put (s' := .mk ⟨k, y.a.w, 0, 0⟩ [.mk ⟨0, 65536, y.a.c, y.a.s⟩ []]) h hy (shape_splitI (a := ⟨k, y.a.w, 0, 0⟩) q1 q3 q4 hk.1 hk.2 rfl rfl (by simp) (by simp) (by intro t ht; rw [List.mem_singleton] at ht; subst ht; exact hleaf)) (by
          rw [clients_mk (a := ⟨k, y.a.w, 0, 0⟩) (by simp only; omega), clients_leaf hy0]
          simp only [List.flatMap_cons, List.flatMap_nil, List.append_nil]
          exact clients_leaf rfl)
        have h5 := cnt_put (s' := .mk ⟨k, y.a.w, 0, 0⟩ [.mk ⟨0, 65536, y.a.c, y.a.s⟩ []]) hy
        have h6 : cnt (.mk ⟨k, y.a.w, 0, 0⟩ [.mk ⟨0, 65536, y.a.c, y.a.s⟩ []] : Con) = 2 := by rw [cnt_mk]; simp only [cntL]; rw [cnt_mk]; rfl
        have h7 : cnt y = 1 := by obtain ⟨a, ks⟩ := y; simp only [Tr.ks_mk] at hyl; subst hyl; rw [cnt_mk]; rfl
        exact ⟨h3, h4, by simp only; omega⟩
  · rw [if_neg hs] at h0; exact absurd h0 (by decide)
/-- One step further up, where it is not the root. -/
theorem shape_up : ∀ (x : Con) (d : Nat), shape x (d + 1) = true → 0 < d → shape x d = true := by
  intro x
  induction x using Tr.ind with
  | h a ks ih =>
    intro d h hd
    by_cases hk : a.k = 0
    · obtain ⟨p1, p2, p3, p4, p5, p6⟩ := leaf_shape h hk
      have hl := shape_leaf h hk
      simp only [Tr.ks_mk, Tr.a_mk] at *
      subst hl
      have e : (Tr.mk a [] : Con) = .mk ⟨0, a.w, a.c, a.s⟩ [] := by rw [← hk]
      rw [e]
      exact shape_leafI (by omega) hd p3 p4 p5 p6
    · obtain ⟨p1, p2, p3, p4, p5, p6, p7, p8, p9, p10⟩ := split_shape h hk
      exact shape_splitI (by omega) p2 p3 p4 p5 p6 p7 p8 (.inr (by omega)) fun y hy => ih y hy (d + 1) (p10 y hy) (by omega)
theorem lessL_mem {c : Int} {y : Con} : ∀ {ks : List Con}, y ∈ lessL c ks → ∃ x ∈ ks, lessT c x = some y := by
  intro ks
  induction ks with
  | nil => intro h; cases h
  | cons x r ih =>
    intro h
    simp only [lessL, List.mem_append, Option.mem_toList] at h
    rcases h with h | h
    · exact ⟨x, by simp, h⟩
    · obtain ⟨z, hz, h⟩ := ih h
      exact ⟨z, by simp [hz], h⟩
theorem shape_less (c : Int) : ∀ (x : Con) (d : Nat) (y : Con), shape x d = true → 0 < d → lessT c x = some y → shape y d = true := by
  intro x
  induction x using Tr.ind with
  | h a ks ih =>
    intro d y h hd hy
    simp only [lessT] at hy
    by_cases hk : a.k = 0
    · rw [if_pos hk] at hy
      split at hy
      · cases hy
      · have hy := Option.some.inj hy; subst hy; exact h
    · rw [if_neg hk] at hy
      split at hy
      · have hy := Option.some.inj hy; subst hy; exact h
      · obtain ⟨p1, p2, p3, p4, p5, p6, p7, p8, p9, p10⟩ := split_shape h hk
        have hl : ∀ z ∈ lessL c ks, shape z (d + 1) = true := fun z hz => by
          obtain ⟨x, hx, e⟩ := lessL_mem hz
          exact ih x hx (d + 1) z (p10 x hx) (by omega) e
        have hn := lessL_len c ks
        unfold packT at hy
        split at hy
        · cases hy
        · rename_i h0
          split at hy
          · rename_i h1
            obtain ⟨z, hz, e⟩ := Option.map_eq_some_iff.1 hy
            subst e
            have hs := shape_up z d (hl z (List.mem_of_getElem? hz)) hd
            exact shape_w hs p2 p3
          · have hy := Option.some.inj hy; subst hy
            exact shape_splitI p1 p2 p3 p4 p5 p6 p7 (by omega) (.inr (by omega)) hl
theorem not_in {x : Con} {c : Int} (h : hasB x c = false) : c ∉ clients x := fun hm => by rw [hasB_iff.2 hm] at h; cases h
theorem filter_same {l : List Int} {c : Int} (h : c ∉ l) : l.filter (fun e => !(e == c)) = l := by
  rw [List.filter_eq_self]
  intro e he
  have : e ≠ c := fun h1 => h (h1 ▸ he)
  simp [this]
theorem clients_less (c : Int) : ∀ (x : Con), (lessT c x).toList.flatMap clients = (clients x).filter (fun e => !(e == c)) := by
  intro x
  induction x using Tr.ind with
  | h a ks ih =>
    have hL : ∀ l : List Con, (∀ x ∈ l, x ∈ ks) → (lessL c l).flatMap clients = (l.flatMap clients).filter (fun e => !(e == c)) := by
      intro l
      induction l with
      | nil => intro _; rfl
      | cons y r ihr =>
        intro hm
        simp only [lessL, List.flatMap_append, List.flatMap_cons, List.filter_append]
        rw [ih y (hm y (by simp)), ihr fun z hz => hm z (by simp [hz])]
    have hk0 := hL ks fun _ h => h
    simp only [lessT]
    by_cases hk : a.k = 0
    · rw [if_pos hk, clients_leaf (y := .mk a ks) hk]
      by_cases hc : a.c = c
      · rw [if_pos hc]; simp [hc]
      · rw [if_neg hc]; simp [hc, clients_leaf (y := .mk a ks) hk]
    · rw [if_neg hk]
      by_cases hh : hasB (.mk a ks) c = false
      · rw [if_pos hh, filter_same (not_in hh)]; simp
      · rw [if_neg hh, clients_mk hk, ← hk0]
        unfold packT
        by_cases h0 : (lessL c ks).length = 0
        · rw [if_pos h0, List.eq_nil_of_length_eq_zero h0]; rfl
        · rw [if_neg h0]
          by_cases h1 : (lessL c ks).length = 1
          · rw [if_pos h1]
            obtain ⟨z, hz⟩ := List.length_eq_one_iff.1 h1
            rw [hz]
            simp only [List.getElem?_cons_zero, Option.map_some, Option.toList_some, List.flatMap_cons, List.flatMap_nil, List.append_nil]
            exact clients_w rfl rfl
          · rw [if_neg h1]
            simp only [Option.toList_some, List.flatMap_cons, List.flatMap_nil, List.append_nil]
            exact clients_mk hk
theorem cnt_w (z : Con) (n : Int) : cnt (.mk { z.a with w := n } z.ks) = cnt z := by obtain ⟨b, l⟩ := z; rw [cnt_mk, cnt_mk]; rfl
theorem cnt_less (c : Int) : ∀ (x : Con), cntL (lessT c x).toList ≤ cnt x := by
  intro x
  induction x using Tr.ind with
  | h a ks ih =>
    have hL : ∀ l : List Con, (∀ x ∈ l, x ∈ ks) → cntL (lessL c l) ≤ cntL l := by
      intro l
      induction l with
      | nil => intro _; exact Nat.le_refl _
      | cons y r ihr =>
        intro hm
        simp only [lessL, cntL_append, cntL]
        have := ih y (hm y (by simp))
        have := ihr fun z hz => hm z (by simp [hz])
        omega
    have hk0 := hL ks fun _ h => h
    have hs : cntL [Tr.mk a ks] = cnt (.mk a ks) := by simp [cntL]
    simp only [lessT]
    split
    · split
      · simp [cntL]
      · rw [Option.toList_some, hs]; exact Nat.le_refl _
    · split
      · rw [Option.toList_some, hs]; exact Nat.le_refl _
      · rw [cnt_mk]
        unfold packT
        split
        · simp [cntL]
        · split
          · rename_i h1
            obtain ⟨z, hz⟩ := List.length_eq_one_iff.1 h1
            rw [hz] at hk0 ⊢
            simp only [List.getElem?_cons_zero, Option.map_some, Option.toList_some, cntL] at hk0 ⊢
            refine Nat.le_trans (Nat.le_of_eq (Nat.add_zero _)) (Nat.le_trans (Nat.le_of_eq (cnt_w z a.w)) ?_)
            omega
          · simp only [Option.toList_some, cntL, cnt_mk]; omega
theorem cntL_less (c : Int) (ks : List Con) : cntL (lessL c ks) ≤ cntL ks := by
  induction ks with
  | nil => exact Nat.le_refl _
  | cons y r ih => simp only [lessL, cntL_append, cntL]; have := cnt_less c y; omega
theorem clientsL_less (c : Int) (ks : List Con) : (lessL c ks).flatMap clients = (ks.flatMap clients).filter (fun e => !(e == c)) := by
  induction ks with
  | nil => rfl
  | cons y r ih => simp only [lessL, List.flatMap_append, List.flatMap_cons, List.filter_append]; rw [clients_less, ih]
theorem remove_tree {x : Con} {c : Int} (h : treeB x = true) : treeB (.mk x.a (lessL c x.ks)) = true ∧ clients (.mk x.a (lessL c x.ks)) = (clients x).filter (fun e => !(e == c)) ∧ cnt (.mk x.a (lessL c x.ks)) ≤ cnt x := by
  have hk := tree_k h
  obtain ⟨h1, h2, h3⟩ := tree_parts h
  obtain ⟨a, ks⟩ := x
  simp only [Tr.a_mk, Tr.ks_mk] at hk ⊢
  obtain ⟨p1, p2, p3, p4, p5, p6, p7, p8, p9, p10⟩ := split_shape h1 hk
  have hcl : clients (.mk a (lessL c ks)) = (clients (.mk a ks)).filter (fun e => !(e == c)) := by rw [clients_mk hk, clients_mk hk, clientsL_less]
  have hlen := lessL_len c ks
  refine ⟨tree_of (shape_splitI p1 p2 p3 p4 p5 p6 p7 (by omega) (.inl rfl) fun y hy => ?_) (by rw [hcl]; exact h2.filter _) (by rw [← clients_len, hcl]; have := List.length_filter_le (fun e => !(e == c)) (clients (.mk a ks)); rw [clients_len] at this; omega), hcl, ?_⟩
  · obtain ⟨z, hz, e⟩ := lessL_mem hy
    exact shape_less c z 1 y (p10 z hz) (by omega) e
  · rw [cnt_mk, cnt_mk]; have := cntL_less c ks; omega
theorem filter_one {l : List Int} {c : Int} (h : l.Nodup) (hc : c ∈ l) : (l.filter (fun e => !(e == c))).length + 1 = l.length := by
  have e : l.filter (fun e => !(e == c)) = l.erase c := (List.Nodup.erase_eq_filter h c).symm
  rw [e, List.length_erase_of_mem hc]
  have := List.length_pos_of_mem hc
  omega
end Go.Proofs.Ytbbmfpdlkogkfaa.Co
end
section
namespace Go.Proofs.Ytbbmfpdlkogkfaa.Co
open Go.RowKit Go.Shelf
theorem insert_spot {x : Con} {near : Int} (h : treeB x = true) (hn : near = 0 ∨ hasB x near = true) : ∃ v i p, insSpot x near = (v, i) ∧ get x v = some p ∧ i ≤ p.ks.length ∧ v.length ≤ 7 ∧ p.a.k ≠ 0 := by
  by_cases h0 : near = 0
  · exact ⟨[], x.ks.length, x, by unfold insSpot; rw [if_pos h0], rfl, Nat.le_refl _, by simp, tree_k h⟩
  · have hh : hasB x near = true := by
      rcases hn with h1 | h1
      · exact absurd h1 h0
      · exact h1
    rcases findI_spec (c := near) h with ⟨h1, _⟩ | ⟨_, u, hu, _⟩
    · rw [hh] at h1; cases h1
    · obtain ⟨v, j, p, y, rfl, hp, hy, hy0, _, hg⟩ := id hu
      have hs := shape_get (tree_parts h).1 hg
      rw [Nat.zero_add] at hs
      have hs2 := shape_get (tree_parts h).1 hp
      obtain ⟨q1, _⟩ := leaf_shape hs hy0
      refine ⟨v, j + 1, p, ?_, hp, ?_, ?_, fun e => ?_⟩
      · unfold insSpot; rw [if_neg h0, findI_of h hu]; simp
      · have := (List.getElem?_eq_some_iff.1 hy).1; omega
      · simp at q1; omega
      · have := shape_leaf hs2 e
        rw [this] at hy; cases hy
theorem clients_leafC (c se : Int) : clients (leafC c se) = [c] := clients_leaf rfl
theorem less_leafC (c se : Int) : lessT c (leafC c se) = none := by unfold leafC; simp [lessT]
theorem no_kid {a : D} {ks : List Con} {c : Int} (hk : a.k ≠ 0) (h : hasB (.mk a ks) c = false) : ∀ z ∈ ks, hasB z c = false := fun z hz => by
  have h1 := not_in h
  rw [clients_mk hk] at h1
  rw [← Bool.not_eq_true]
  intro h2
  exact h1 (List.mem_flatMap.2 ⟨z, hz, hasB_iff.1 h2⟩)
theorem back_less {c se : Int} : ∀ (v : List Nat) (x p : Con) (i d : Nat), shape x d = true → hasB x c = false → x.a.k ≠ 0 → get x v = some p → p.a.k ≠ 0 → singleL x.ks (d + 1) = false →
    lessL c (put x v (.mk p.a (p.ks.take i ++ leafC c se :: p.ks.drop i))).ks = x.ks ∧ (put x v (.mk p.a (p.ks.take i ++ leafC c se :: p.ks.drop i))).a = x.a := by
  intro v
  induction v with
  | nil =>
    intro x p i d h hc hk hp _ _
    simp only [get] at hp
    have hp := Option.some.inj hp
    subst hp
    simp only [put, Tr.a_mk, Tr.ks_mk, and_true]
    have hno := no_kid (a := x.a) (ks := x.ks) hk (by rw [Tr.eta]; exact hc)
    rw [lessL_append]
    simp only [lessL, less_leafC, Option.toList_none, List.nil_append]
    rw [lessL_same fun z hz => hno z (List.mem_of_mem_take hz), lessL_same fun z hz => hno z (List.mem_of_mem_drop hz), List.take_append_drop]
  | cons j r ih =>
    intro x p i d h hc hk hp hpk hs
    obtain ⟨a, ks⟩ := x
    obtain ⟨z, hz, hr⟩ := get_consP hp
    have hzm := List.mem_of_getElem? hz
    have hsz := shape_kid h hzm
    have hno := no_kid hk hc
    have hzk : z.a.k ≠ 0 := by
      cases r with
      | nil => simp only [get] at hr; have hr := Option.some.inj hr; subst hr; exact hpk
      | cons q s =>
        intro e
        have := shape_leaf hsz e
        obtain ⟨b, l⟩ := z
        obtain ⟨_, h2, _⟩ := get_consP hr
        simp only [Tr.ks_mk] at this
        rw [this] at h2; cases h2
    have hs1 : singleC z (d + 1) = false := by
      obtain ⟨e1, _⟩ := split_at hz
      simp only [Tr.ks_mk] at hs
      rw [e1, singleL_append] at hs
      simp only [singleL, Bool.or_eq_false_iff] at hs
      exact hs.2.1
    have hs2 : z.ks.length ≠ 1 ∧ singleL z.ks (d + 1 + 1) = false := by
      obtain ⟨b, l⟩ := z
      simp only [singleC, Bool.or_eq_false_iff, Bool.and_eq_false_iff, decide_eq_false_iff_not] at hs1
      refine ⟨?_, hs1.2⟩
      rcases hs1.1 with h1 | h1
      · omega
      · exact h1
    obtain ⟨h1, h2⟩ := ih z p i (d + 1) hsz (hno z hzm) hzk hr hpk hs2.2
    obtain ⟨z', hz'⟩ : ∃ z', z' = put z r (.mk p.a (p.ks.take i ++ leafC c se :: p.ks.drop i)) := ⟨_, rfl⟩
    rw [← hz'] at h1 h2
    have hcz : hasB z' c = true := by
      obtain ⟨l1, l2, _, e2⟩ := clients_put hsz hr
      have := e2 (.mk p.a (p.ks.take i ++ leafC c se :: p.ks.drop i))
      rw [← hz'] at this
      refine hasB_iff.2 ?_
      rw [this, clients_mk hpk, List.flatMap_append, List.flatMap_cons, clients_leafC]
      simp
    rw [put_consI hz, ← hz']
    simp only [Tr.ks_mk, Tr.a_mk, and_true]
    obtain ⟨e1, e2⟩ := split_at hz
    rw [e2 z', lessL_append]
    simp only [lessL]
    have hl : lessT c z' = some z := by
      obtain ⟨b, l⟩ := z'
      simp only [Tr.ks_mk, Tr.a_mk] at h1 h2
      subst h2
      obtain ⟨zb, zl⟩ := z
      simp only [Tr.a_mk, Tr.ks_mk] at *
      obtain ⟨p1, p2, p3, p4, p5, p6, p7, p8, p9, p10⟩ := split_shape hsz hzk
      simp only [lessT]
      rw [if_neg hzk, if_neg (by rw [hcz]; simp), h1]
      unfold packT
      rw [if_neg (by omega), if_neg hs2.1]
    rw [hl, lessL_same fun y hy => hno y (List.mem_of_mem_take hy), lessL_same fun y hy => hno y (List.mem_of_mem_drop hy)]
    exact e1.symm
theorem insert_tree {x : Con} {near c se : Int} (h0 : (insertI x near c se).2 = 0) : treeB x = true ∧ hasB x c = false ∧ treeB (insertI x near c se).1 = true ∧
    (∃ l1 l2, clients x = l1 ++ l2 ∧ clients (insertI x near c se).1 = l1 ++ c :: l2) ∧ cnt (insertI x near c se).1 = cnt x + 1 ∧ (singleC x 0 = false → Tr.mk (insertI x near c se).1.a (lessL c (insertI x near c se).1.ks) = x) := by
  unfold insertI at h0 ⊢
  by_cases g1 : treeB x = false
  · rw [if_pos g1] at h0; exact absurd h0 (by decide)
  rw [if_neg g1] at h0 ⊢
  have ht : treeB x = true := by simpa using g1
  by_cases g2 : hasB x c = true
  · rw [if_pos g2] at h0; exact absurd h0 (by decide)
  rw [if_neg g2] at h0 ⊢
  have hc : hasB x c = false := by simpa using g2
  by_cases g3 : c < 1 ∨ se < 0
  · rw [if_pos g3] at h0; exact absurd h0 (by decide)
  rw [if_neg g3] at h0 ⊢
  by_cases g4 : near ≠ 0 ∧ hasB x near = false
  · rw [if_pos g4] at h0; exact absurd h0 (by decide)
  rw [if_neg g4] at h0 ⊢
  obtain ⟨v, i, p, hsp, hp, hi, hv, hpk⟩ := insert_spot (near := near) ht (by
    by_cases e : near = 0
    · exact .inl e
    · right; simpa [e] using g4)
  rw [hsp] at h0 ⊢
  simp only at h0 ⊢
  rw [hp] at h0 ⊢
  simp only at h0 ⊢
  by_cases g5 : p.ks.length = 64 ∨ (all x).length = 128
  · rw [if_pos g5] at h0; exact absurd h0 (by decide)
  rw [if_neg g5] at h0 ⊢
  simp only
  obtain ⟨t1, t2, t3⟩ := tree_parts ht
  have hsh := shape_get t1 hp
  rw [Nat.zero_add] at hsh
  obtain ⟨a, ks⟩ := p
  simp only [Tr.a_mk, Tr.ks_mk] at *
  obtain ⟨p1, p2, p3, p4, p5, p6, p7, p8, p9, p10⟩ := split_shape hsh hpk
  have hlen : (ks.take i ++ leafC c se :: ks.drop i).length = ks.length + 1 := by simp; omega
  have hnew : shape (.mk a (ks.take i ++ leafC c se :: ks.drop i)) v.length = true := by
    refine shape_splitI p1 p2 p3 p4 p5 p6 p7 (by omega) (.inr (by omega)) fun y hy => ?_
    rw [List.mem_append, List.mem_cons] at hy
    rcases hy with hy | rfl | hy
    · exact p10 y (List.mem_of_mem_take hy)
    · exact shape_leafI (by omega) (by omega) (by decide) (by decide) (by omega) (by omega)
    · exact p10 y (List.mem_of_mem_drop hy)
  have hcl : clients (.mk a (ks.take i ++ leafC c se :: ks.drop i)) = (ks.take i).flatMap clients ++ c :: (ks.drop i).flatMap clients := by
    rw [clients_mk hpk, List.flatMap_append, List.flatMap_cons, clients_leafC]; rfl
  have hcp : clients (.mk a ks) = (ks.take i).flatMap clients ++ (ks.drop i).flatMap clients := by
    rw [clients_mk hpk, ← List.flatMap_append, List.take_append_drop]
  obtain ⟨l1, l2, e1, e2⟩ := clients_put t1 hp
  have E1 : clients x = (l1 ++ (ks.take i).flatMap clients) ++ ((ks.drop i).flatMap clients ++ l2) := by rw [e1, hcp]; simp
  have E2 : clients (put x v (.mk a (ks.take i ++ leafC c se :: ks.drop i))) = (l1 ++ (ks.take i).flatMap clients) ++ c :: ((ks.drop i).flatMap clients ++ l2) := by rw [e2, hcl]; simp
  have hcn := not_in hc
  have hperm := List.perm_middle (a := c) (l₁ := l1 ++ (ks.take i).flatMap clients) (l₂ := (ks.drop i).flatMap clients ++ l2)
  rw [← E1, ← E2] at hperm
  refine ⟨ht, hc, tree_of (shape_put t1 hp (by simpa using hnew)) (hperm.nodup_iff.2 (List.nodup_cons.2 ⟨hcn, t2⟩)) ?_, ⟨_, _, E1, E2⟩, ?_, fun hsg => ?_⟩
  · rw [← clients_len, hperm.length_eq, List.length_cons, clients_len]; omega
  · have k1 := cnt_put (s' := .mk a (ks.take i ++ leafC c se :: ks.drop i)) hp
    have k2 : cnt (.mk a (ks.take i ++ leafC c se :: ks.drop i)) = cnt (.mk a ks) + 1 := by
      rw [cnt_mk, cnt_mk, cntL_append]
      have e : cntL ks = cntL (ks.take i) + cntL (ks.drop i) := by rw [← cntL_append, List.take_append_drop]
      have e3 : cnt (leafC c se) = 1 := by unfold leafC; rw [cnt_mk]; rfl
      simp only [cntL]
      omega
    omega
  · have hsl : singleL x.ks 1 = false := by
      obtain ⟨b, l⟩ := x
      simp only [singleC, Bool.or_eq_false_iff] at hsg
      exact hsg.2
    obtain ⟨k1, k2⟩ := back_less (c := c) (se := se) v x (.mk a ks) i 0 t1 hc (tree_k ht) hp hpk hsl
    simp only [Tr.a_mk, Tr.ks_mk] at k1 k2
    rw [k1, k2, Tr.eta]
theorem leaves_clients {x : Con} (h : treeB x = true) : leavesI x = clients x := by unfold leavesI clients cl; rw [if_pos h]
theorem filter_mid {l1 l2 : List Int} {c : Int} (h : c ∉ l1 ++ l2) : (l1 ++ c :: l2).filter (fun e => !(e == c)) = l1 ++ l2 := by
  rw [List.mem_append, not_or] at h
  rw [List.filter_append, filter_same h.1, List.filter_cons]
  simp [filter_same h.2]
end Go.Proofs.Ytbbmfpdlkogkfaa.Co
end
section
namespace Go.Proofs.Ytbbmfpdlkogkfaa.Co
open Go.RowKit Go.Shelf
theorem RZ.seen {w : World} {Z : Nat → Prop} : ∀ {l : List Con} {vs : List Value} {j : Nat} {y : Con}, RZ w Z l vs → l[j]? = some y → vs[j * 5 + 3]? = some (.int .i64 y.a.s) := by
  intro l
  induction l with
  | nil => intro vs j y _ h; simp at h
  | cons x r ih =>
    intro vs j y ⟨sv, rest, h1, _, h4⟩ h
    cases j with
    | zero => simp at h; subst h; rw [h1]; rfl
    | succ j =>
      have := ih h4 (by simpa using h)
      rw [h1, List.getElem?_append_right (by rw [enc_len]; omega), enc_len, show (j + 1) * 5 + 3 - 5 = j * 5 + 3 by omega]
      exact this
theorem leaf_seen {x y : Con} (h : treeB x = true) (hy : y ∈ all x) : 0 ≤ y.a.s := by
  obtain ⟨u, hu, hk⟩ := all_get x y hy
  have hs := shape_get (tree_parts h).1 hu
  obtain ⟨a, ks⟩ := y
  simp only [shape, Bool.and_eq_true] at hs
  have h1 := hs.1
  simp only [Tr.a_mk] at hk
  unfold soundB at h1
  split at h1
  · cases h1
  · simp [hk] at h1; exact h1.2.2.1
theorem top_step {l : List Con} {i : Nat} {x : Con} (hx : l[i]? = some x) (s : Int × Int) (hs : (l.take i).foldl topF (0, -1) = s) : (l.take (i + 1)).foldl topF (0, -1) = topF s x := by
  obtain ⟨h1, h2⟩ := List.getElem?_eq_some_iff.1 hx
  rw [List.take_succ_eq_append_getElem h1, List.foldl_append, hs, h2]; rfl
/-- The cells that Top reads. -/
def Seen (l : List Con) (p : Option Addr) (w : World) : Prop := ∀ (j : Nat) (y : Con), l[j]? = some y → ∃ g, p = some ⟨g, 0, none⟩ ∧ w.cell? ⟨g, j * 5 + 2, none⟩ = some (.int .i64 y.a.c) ∧ w.cell? ⟨g, j * 5 + 3, none⟩ = some (.int .i64 y.a.s)
theorem RowR.seen {Z : Nat → Prop} {B : Nat} {l : List Con} {p : Option Addr} {n c : Nat} {w : World} (h : RowR Z B l (.slice p n c) w) : Seen l p w := fun j y hy => by
  obtain ⟨vs, ho, hz, -⟩ := h
  obtain ⟨g, cg, hgv, hg1, hg2⟩ := ho.form (by have := (List.getElem?_eq_some_iff.1 hy).1; omega)
  injection hgv with e1 e2 e3
  subst e1 e2 e3
  have h1 := ho.cells (g := g) rfl (j * 5 + 2) _ (hz.client hy)
  have h2 := ho.cells (g := g) rfl (j * 5 + 3) _ (hz.seen hy)
  exact ⟨g, rfl, by simpa [Addr.add] using h1, by simpa [Addr.add] using h2⟩
set_option maxHeartbeats 4000000 in
theorem TopR_c (Z : Nat → Prop) (x : Con) (sv : Value) (w : World) (hK : KV w Z x.ks sv) (hd : (all x).length ≤ 1000000) (hZ : ∀ b, Z b → b < w.heap.size) :
    Calls Try.prog 30 #[conV x.a sv] w fun e w' => e = .returned (.int .i64 (topI x)) ∧ Below w.heap.size w w' := by
  obtain ⟨p, cap, rfl, hl⟩ := hK.slice
  obtain ⟨m, hm⟩ : ∃ m, m = x.ks.length := ⟨_, rfl⟩
  rw [← hm] at hK ⊢
  obtain ⟨r, hr⟩ : ∃ r, r = topI x := ⟨_, rfl⟩
  rw [← hr]
  obtain ⟨R, hR⟩ : ∃ R, R = fun (e : Ending) (w' : World) => e = .returned (.int .i64 r) ∧ Below w.heap.size w w' := ⟨_, rfl⟩
  have hRe : ∀ e w', R e w' ↔ (e = .returned (.int .i64 r) ∧ Below w.heap.size w w') := by rw [hR]; exact fun _ _ => Iff.rfl
  rw [← hR]
  have HR := Lib.hid hRe
  have hb0 := (Below.refl w.heap.size w).alloc (Nat.le_refl _) (.cells #[.int .i64 x.a.k, .int .i64 x.a.w, .int .i64 x.a.c, .int .i64 x.a.s, .slice p m cap] 24)
  have HQ := Lib.hid (Blk.new w 24 #[.int .i64 x.a.k, .int .i64 x.a.w, .int .i64 x.a.c, .int .i64 x.a.s, .slice p m cap])
  have HC := Lib.hid (CheckR_c Z x (.slice p m cap) _ (hK.next hb0) hd (fun b h => Nat.lt_of_lt_of_le (hZ b h) hb0.size))
  have HA := Lib.hid (fun (W : World) (h : Below w.heap.size w W) => All_c Z x (.slice p m cap) W (hK.next h) hd (fun b hb => Nat.lt_of_lt_of_le (hZ b hb) h.size))
  have HB := Lib.hid hb0
  rw [checkI_eq] at HC
  cases htr : treeB x
  · have HT : Hid (r = 0) := by rw [hr]; unfold topI; rw [htr]; rfl
    rw [if_pos htr] at HC
    clear htr hm hr hR hRe hb0 hK hZ hl HA hd
    show Calls Try.prog 30 #[.agg #[.int .i64 x.a.k, .int .i64 x.a.w, .int .i64 x.a.c, .int .i64 x.a.s, .slice p m cap]] w R
    go_enter Try.func30, Try.ntmps30
    go_wp2_with fail
    refine HC.out.mono ?_
    rintro e w1 ⟨rfl, hb⟩
    have HB1 := Lib.hid (HB.out.trans (hb.mono HB.out.size))
    clear hb
    go_wp2_with fail
    refine (HR.out _ _).2 ⟨?_, HB1.out⟩
    rw [HT.out]; rfl
  · rw [if_neg (by rw [htr]; decide)] at HC
    have HSE := Lib.hid (fun (y : Con) (hy : y ∈ all x) => leaf_seen htr hy)
    obtain ⟨l, hl2⟩ : ∃ l, l = all x := ⟨_, rfl⟩
    have HT : Hid (r = (l.foldl topF (0, -1)).1) := by rw [hr, hl2]; unfold topI; rw [if_pos htr]; exact rfl
    rw [← hl2] at HA hd HSE
    clear htr hm hr hR hRe hb0 hK hZ hl hl2
    show Calls Try.prog 30 #[.agg #[.int .i64 x.a.k, .int .i64 x.a.w, .int .i64 x.a.c, .int .i64 x.a.s, .slice p m cap]] w R
    go_enter Try.func30, Try.ntmps30
    go_wp2_with fail
    refine HC.out.mono ?_
    rintro e w1 ⟨rfl, hb⟩
    have HB1 := Lib.hid (HB.out.trans (hb.mono HB.out.size))
    obtain ⟨⟨b0, b1, b2, b3, b4⟩, -⟩ := c5 (HQ.out.next hb)
    clear hb HB HC HQ
    go_wp2_with fail
    refine (HA.out w1 HB1.out).mono ?_
    rintro e w2 ⟨hb, v, rfl, hrow⟩
    obtain ⟨pv, cv, rfl⟩ := hrow.slice
    have hse := hrow.seen
    have HB2 := Lib.hid (HB1.out.trans (hb.mono HB1.out.size))
    obtain ⟨n, hn⟩ : ∃ n, n = l.length := ⟨_, rfl⟩
    rw [← hn] at hd ⊢
    have HN := Lib.hid hn
    have HSN := Lib.hid hse
    clear hb hrow HA hn HB1 b0 b1 b2 b3 b4 hse
    go_wp2_with fail
    go_loopw [4, 5] (fun zb zi wr => ∃ i best : Nat, zi = .int .i64 i ∧ zb = .int .i64 best ∧ 1 ≤ i ∧ (i ≤ n ∨ i = 1) ∧ Below w.heap.size w wr ∧ Seen l pv wr ∧ Asd (i ≤ n → ∃ b, l[best]? = some b ∧ (l.take i).foldl topF (0, -1) = (b.a.c, b.a.s))) (fun _ zi _ => n - (intOf zi).toNat)
    case atStart =>
      refine ⟨1, 0, rfl, rfl, Nat.le_refl _, .inr rfl, HB2.out, HSN.out, fun h => ?_⟩
      obtain ⟨y, hy⟩ : ∃ y, l[0]? = some y := ⟨_, List.getElem?_eq_getElem (by rw [← HN.out]; omega)⟩
      refine ⟨y, hy, ?_⟩
      rw [top_step hy (0, -1) rfl]
      unfold topF
      rw [if_pos]
      have := HSE.out y (List.mem_of_getElem? hy)
      show (-1 : Int) < y.a.s
      omega
    case round =>
      clear HB2 HSN
      obtain ⟨i, best, rfl, rfl, hi1, hin, hW, hse, hbs⟩ := hrel
      have HSO := Lib.hid (show i ≤ n → ∃ b, l[best]? = some b ∧ (l.take i).foldl topF (0, -1) = (b.a.c, b.a.s) from hbs)
      have HW := Lib.hid hW
      have HSE2 := Lib.hid hse
      clear hbs hW
      by_cases hlt : i < n
      · obtain ⟨b, hb, hf⟩ := HSO.out (by omega)
        obtain ⟨y, hy⟩ : ∃ y, l[i]? = some y := ⟨_, List.getElem?_eq_getElem (by rw [← HN.out]; exact hlt)⟩
        obtain ⟨g, rfl, -, ci⟩ := hse i y hy
        obtain ⟨g', e, -, cb⟩ := hse best b hb
        injection e with e
        injection e with e
        subst e
        have hbn : best < n := by rw [HN.out]; exact (List.getElem?_eq_some_iff.1 hb).1
        have HST := Lib.hid (top_step hy _ hf)
        have HBB := Lib.hid hb
        have HYY := Lib.hid hy
        have HFF := Lib.hid hf
        clear hse hb hy hf
        by_cases hc : b.a.s < y.a.s
        · have HI : Hid (topF (b.a.c, b.a.s) y = (y.a.c, y.a.s)) := by unfold topF; exact if_pos hc
          go_wp2_with fail
          go_quiet (fail)
          go_wp2_with fail
          refine ⟨⟨i + 1, i, by go_num, by go_num, by omega, .inl (by omega), below_drewN HW.out _, fun j q h => HSE2.out j q h, fun _ => ⟨y, HYY.out, ?_⟩⟩, by simp [intOf]; omega⟩
          rw [HST.out, HI.out]
        · have HI : Hid (topF (b.a.c, b.a.s) y = (b.a.c, b.a.s)) := by unfold topF; exact if_neg hc
          go_wp2_with fail
          go_quiet (fail)
          go_wp2_with fail
          refine ⟨⟨i + 1, best, by go_num, by go_num, by omega, .inl (by omega), below_drewN HW.out _, fun j q h => HSE2.out j q h, fun _ => ⟨b, HBB.out, ?_⟩⟩, by simp [intOf]; omega⟩
          rw [HST.out, HI.out]
      · by_cases hn0 : n = 0
        · have HT2 : Hid (r = 0) := by rw [HT.out, show l = [] from List.length_eq_zero_iff.1 (by rw [← HN.out]; exact hn0)]; rfl
          subst hn0
          clear hse
          go_wp2_with fail
          refine (HR.out _ _).2 ⟨?_, HW.out⟩
          rw [HT2.out]; rfl
        · obtain ⟨b, hb, hf⟩ := HSO.out (by omega)
          obtain ⟨g, rfl, cc, -⟩ := hse best b hb
          have hbn : best < n := by rw [HN.out]; exact (List.getElem?_eq_some_iff.1 hb).1
          have HT2 : Hid (r = b.a.c) := by
            rw [HT.out]
            rw [List.take_of_length_le (by have := HN.out; omega)] at hf
            rw [hf]; exact rfl
          clear hse hb hf
          go_wp2_with fail
          refine (HR.out _ _).2 ⟨?_, HW.out⟩
          rw [HT2.out]; rfl
end Go.Proofs.Ytbbmfpdlkogkfaa.Co
end
section
namespace Go.Proofs.Ytbbmfpdlkogkfaa.Co
open Go.RowKit Go.Shelf
/-- A slice that reads as these numbers. -/
def RI (w : World) (l : List Int) (v : Value) : Prop := ∃ p c, v = .slice p l.length c ∧ ∀ (k : Nat) (u : Int), l[k]? = some u → ∃ g o, p = some ⟨g, o, none⟩ ∧ g < w.heap.size ∧ w.cell? ⟨g, o + k, none⟩ = some (.int .i64 u)
theorem RI.next {w w' : World} {l : List Int} {v : Value} (h : RI w l v) (hb : Below w.heap.size w w') : RI w' l v := by
  obtain ⟨p, c, h1, h2⟩ := h
  refine ⟨p, c, h1, fun k u hu => ?_⟩
  obtain ⟨g, o, h3, h4, h5⟩ := h2 k u hu
  exact ⟨g, o, h3, Nat.lt_of_lt_of_le h4 hb.size, (cell_same (hb.block g h4) _).trans h5⟩
def natsZ (u : List Nat) : List Int := u.map fun i : Nat => (i : Int)
theorem natsZ_at {u : List Nat} {k : Nat} {z : Int} (h : (natsZ u)[k]? = some z) : ∃ i : Nat, u[k]? = some i ∧ z = (i : Int) := by
  unfold natsZ at h
  rw [List.getElem?_map] at h
  obtain ⟨i, h1, h2⟩ := Option.map_eq_some_iff.1 h
  exact ⟨i, h1, h2.symm⟩
theorem RI.wi {w : World} {u : List Nat} {v : Value} (h : WI w u v) : RI w (natsZ u) v := by
  obtain ⟨p, c, h1, -, -, h2⟩ := h
  refine ⟨p, c, by rw [h1]; unfold natsZ; rw [List.length_map], fun k z hz => ?_⟩
  obtain ⟨i, hi, rfl⟩ := natsZ_at hz
  exact h2 k i hi
theorem RI.wv {w : World} {Y : Nat → Prop} {u : List Nat} {v : Value} (h : WV w Y u v) : RI w (natsZ u) v := by
  obtain ⟨p, c, h1, -, -, -, h3, h2⟩ := h
  refine ⟨p, c, by rw [h1]; unfold natsZ; rw [List.length_map], fun k z hz => ?_⟩
  obtain ⟨i, hi, rfl⟩ := natsZ_at hz
  obtain ⟨b, rfl, h4⟩ := h2 k i hi
  obtain ⟨b', e, h5, -⟩ := h3 _ rfl
  injection e with e
  subst e
  exact ⟨b, 0, rfl, h5, by rwa [Nat.zero_add]⟩
theorem RI.nil (w : World) : RI w [] (.slice none 0 0) := ⟨none, 0, rfl, fun k u h => by simp at h⟩
theorem RI.own {w : World} {B : Nat} {l : List Int} {v : Value} (h : w.ownsRow B 3 1 v l.length (l.map (Value.int .i64))) : RI w l v := by
  obtain ⟨h1, h2⟩ := h
  rcases h2 with ⟨rfl, h3⟩ | ⟨g, cap, cur, rfl, -, h4, h5, h6, h7, h8⟩
  · have := List.length_eq_zero_iff.1 h3
    subst this
    exact RI.nil w
  · refine ⟨_, cap, rfl, fun k u hu => ?_⟩
    have hk := (List.getElem?_eq_some_iff.1 hu).1
    have hc : World.cell? w ⟨g, k, none⟩ = some (.int .i64 u) := by
      have h9 : (cur.toList.take (l.length * 1))[k]? = some (.int .i64 u) := by rw [h8, List.getElem?_map, hu]; rfl
      rw [List.getElem?_take_of_lt (by omega)] at h9
      simp only [World.cell?, h4]
      simpa using h9
    exact ⟨g, 0, rfl, World.block_lt_of_cell? w _ hc, by rwa [Nat.zero_add]⟩
theorem same_list {α : Type} {a b : List α} (hl : a.length = b.length) (h : ∀ j, j < a.length → a[j]? = b[j]?) : a = b := by
  apply List.ext_getElem?
  intro j
  rcases Nat.lt_or_ge j a.length with hj | hj
  · exact h j hj
  · rw [List.getElem?_eq_none hj, List.getElem?_eq_none (by omega)]

set_option maxHeartbeats 2000000 in
theorem ints_c (va vb : Value) (a b : List Int) (w : World) (ha : RI w a va) (hb : RI w b vb) (hla : a.length ≤ 1048576) (hlb : b.length ≤ 1048576) :
    Calls Try.prog 26 #[va, vb] w fun e w' => e = .returned (.bool (decide (a = b))) ∧ Below w.heap.size w w' := by
  obtain ⟨p, c, rfl, ha'⟩ := ha
  obtain ⟨p', c', rfl, hb'⟩ := hb
  have HA := Lib.hid ha'
  have HB := Lib.hid hb'
  obtain ⟨n, hn⟩ : ∃ n, n = a.length := ⟨_, rfl⟩
  obtain ⟨n', hn'⟩ : ∃ n', n' = b.length := ⟨_, rfl⟩
  rw [← hn] at hla
  rw [← hn'] at hlb
  rw [← hn, ← hn']
  have HN := Lib.hid hn
  have HN' := Lib.hid hn'
  clear ha' hb' hn hn'
  by_cases hnn : n = n'
  · subst hnn
    go_enter Try.func26, Try.ntmps26
    go_wp2_with fail
    go_loopw [5] (fun v wr => ∃ k q : Nat, k ≤ n ∧ v = .int .i64 k ∧ wr = w.drewN q ∧ Asd (∀ j, j < k → a[j]? = b[j]?)) (fun v _ => n - (intOf v).toNat)
    case atStart => exact ⟨0, 0, Nat.zero_le _, rfl, rfl, fun j hj => absurd hj (Nat.not_lt_zero _)⟩
    case round =>
      obtain ⟨k, q, hk, rfl, rfl, hA⟩ := hrel
      have HS := Lib.hid (show ∀ j, j < k → a[j]? = b[j]? from hA)
      clear hA
      by_cases hlt : k < n
      · obtain ⟨u, hu⟩ : ∃ u, a[k]? = some u := ⟨_, List.getElem?_eq_getElem (by rw [← HN.out]; exact hlt)⟩
        obtain ⟨u', hu'⟩ : ∃ u, b[k]? = some u := ⟨_, List.getElem?_eq_getElem (by rw [← HN'.out]; exact hlt)⟩
        obtain ⟨g, o, rfl, -, h1⟩ := HA.out k u hu
        obtain ⟨g', o', rfl, -, h2⟩ := HB.out k u' hu'
        have HU := Lib.hid (And.intro hu hu')
        clear hu hu'
        have hi0 : (0 : Int) ≤ (k : Int) := by omega
        have hi1 : (k : Int) < (n : Int) := by omega
        by_cases he : u = u'
        · subst he
          go_wp2_with fail
          go_quiet (fail)
          go_wp2_with fail
          go_roundw
          case rel => exact ⟨k + 1, _, by omega, by go_num, rfl, fun j hj => by
            rcases Nat.lt_or_ge j k with h | h
            · exact HS.out j h
            · obtain rfl : j = k := by omega
              rw [HU.out.1, HU.out.2]⟩
          case measure => simp [intOf]; omega
        · have h3 : (u == u') = false := by simpa using he
          have h4 : (u != u') = true := by simp [bne, h3]
          have HR := Lib.hid (show decide (a = b) = false by
            rw [decide_eq_false_iff_not]
            intro e
            have := HU.out
            rw [e] at this
            have h5 := this.1.symm.trans this.2
            injection h5 with h5
            exact he h5)
          clear he
          go_wp2_with fail
          go_quiet (fail)
          go_wp2_with fail
          go_ret
          exact ⟨ret_bool HR.out.symm, below_drewN (below_drewN (Below.refl _ _) _) _⟩
      · obtain rfl : k = n := by omega
        have HR := Lib.hid (show decide (a = b) = true by
          rw [decide_eq_true_iff]
          exact same_list (by rw [← HN.out, ← HN'.out]) (fun j hj => HS.out j (by rw [HN.out]; exact hj)))
        go_wp2_with fail
        go_ret
        exact ⟨ret_bool HR.out.symm, below_drewN (Below.refl _ _) _⟩
  · have HR := Lib.hid (show decide (a = b) = false by
      rw [decide_eq_false_iff_not]
      intro e
      apply hnn
      rw [HN.out, HN'.out, e])
    have hne : ((n : Int) == (n' : Int)) = false := by simp; omega
    have hne2 : ((n : Int) != (n' : Int)) = true := by simp [bne, hne]
    clear hnn
    go_enter Try.func26, Try.ntmps26
    go_wp2_with fail
    go_ret
    exact ⟨ret_bool HR.out.symm, Below.refl _ _⟩
end Go.Proofs.Ytbbmfpdlkogkfaa.Co
end
section
namespace Go.Proofs.Ytbbmfpdlkogkfaa.Co
open Go.RowKit Go.Shelf
def wayZ : Option (List Nat) → List Int
  | none => []
  | some u => natsZ u
theorem FoundR.reads {x : Con} {c : Int} {w w' : World} {e : Ending} (h : FoundR x c w e w') : Below w.heap.size w w' ∧ ∃ p n k, e = .returned (.tuple #[.slice p n k, .bool (findI x c).isSome]) ∧ RI w' (wayZ (findI x c)) (.slice p n k) := by
  obtain ⟨hb, v, he, ho⟩ := h
  refine ⟨hb, ?_⟩
  cases hf : findI x c with
  | none =>
    rw [hf] at ho he
    have ho : v = .slice none 0 0 := ho
    exact ⟨none, 0, 0, by rw [he, ho], RI.nil w'⟩
  | some u =>
    rw [hf] at ho he
    have hr := RI.wv (show WV w' (fun _ => True) u v from ho)
    have hr' := hr
    obtain ⟨p, k, hv, -⟩ := hr'
    exact ⟨p, _, k, by rw [he, hv], by rw [← hv]; exact hr⟩
theorem FindD.reads {x : Con} {c : Int} {w w' : World} {e : Ending} (h : FindD x c w e w') : Below w.heap.size w w' ∧ (wayZ (findI x c)).length ≤ 1048576 ∧ ∃ p n k, e = .returned (.tuple #[.slice p n k, .bool (findI x c).isSome]) ∧ RI w' (wayZ (findI x c)) (.slice p n k) := by
  obtain ⟨hb, h⟩ := h
  refine ⟨hb, ?_⟩
  rcases h with ⟨hf, he⟩ | ⟨u, v, hf, he, hw⟩
  · rw [hf]
    exact ⟨by simp [wayZ], none, 0, 0, he, RI.nil w'⟩
  · rw [hf]
    have hr := RI.wi hw
    have hr' := hr
    obtain ⟨p, k, hv, -⟩ := hr'
    obtain ⟨_, _, _, hl, -⟩ := hw
    exact ⟨by simp only [wayZ, natsZ, List.length_map]; omega, p, _, k, by rw [he, hv]; rfl, by rw [← hv]; exact hr⟩
theorem leaves_reads {x : Con} {w w' : World} {e : Ending} (h : Below w.heap.size w w' ∧ ∃ v, e = .returned v ∧ w'.ownsRow w.heap.size 3 1 v (leavesI x).length ((leavesI x).map (Value.int .i64))) : Below w.heap.size w w' ∧ ∃ (p : Option Addr) (l : List Int) (k : Nat), e = .returned (.slice p l.length k) ∧ RI w' l (.slice p l.length k) ∧ l = leavesI x := by
  obtain ⟨hb, v, he, ho⟩ := h
  have hr := RI.own ho
  have hr' := hr
  obtain ⟨p, k, hv, -⟩ := hr'
  exact ⟨hb, p, leavesI x, k, by rw [he, hv], by rw [← hv]; exact hr, rfl⟩
set_option maxHeartbeats 4000000 in
set_option maxRecDepth 100000 in
theorem tells_c (x : Con) (sv : Value) (k : Int) (w : World) (hK : KV w (fun b => b < w.heap.size) x.ks sv) (hw : x.a.wide) :
    Calls Try.prog 4 #[conV x.a sv, .int .i64 k] w fun e w' => e = .returned (.bool true) ∧ Below w.heap.size w w' := by
  obtain ⟨p, cap, rfl, -⟩ := hK.slice
  obtain ⟨n, hn⟩ : ∃ n, n = x.ks.length := ⟨_, rfl⟩
  rw [← hn] at hK ⊢
  have hb0 := (Below.refl w.heap.size w).alloc (Nat.le_refl _) (.cells #[.int .i64 x.a.k, .int .i64 x.a.w, .int .i64 x.a.c, .int .i64 x.a.s, .slice p n cap] 24)
  have hq0 := Blk.new w 24 #[.int .i64 x.a.k, .int .i64 x.a.w, .int .i64 x.a.c, .int .i64 x.a.s, .slice p n cap]
  have HF := Lib.hid (few_c (fun b => b < w.heap.size) x (.slice p n cap) _ (hK.next hb0))
  have HB := Lib.hid hb0
  have HQ := Lib.hid hq0
  have HK := Lib.hid hK
  obtain ⟨dn, hdn⟩ : ∃ d, d = decide (nodesC x 0 ≤ 500) := ⟨_, rfl⟩
  rw [← hdn] at HF
  have HD := Lib.hid hdn
  have HW := Lib.hid hw
  clear hn hK hb0 hq0 hdn hw
  show Calls Try.prog 4 #[.agg #[.int .i64 x.a.k, .int .i64 x.a.w, .int .i64 x.a.c, .int .i64 x.a.s, .slice p n cap], .int .i64 k] w _
  go_enter Try.func4, Try.ntmps4
  go_wp2_with fail
  refine HF.out.mono ?_
  rintro e w1 ⟨rfl, hb⟩
  have HB1 := Lib.hid (HB.out.trans (hb.mono HB.out.size))
  have q1 := HQ.out.next hb
  have HQ1 := Lib.hid q1
  obtain ⟨⟨b0, b1, b2, b3, b4⟩, -⟩ := c5 q1
  clear hb HF HB q1
  cases dn
  · go_wp2_with fail
    refine (awake_c w1).mono ?_
    rintro e w2 ⟨rfl, hb⟩
    have HB2 := HB1.out.trans (hb.mono HB1.out.size)
    clear hb
    go_wp2_with fail
    go_ret
    exact ⟨rfl, HB2⟩
  · have hs := Small.of HK.out HW.out (of_decide_eq_true HD.out.symm)
    have HFI : Hid (∀ (W : World), Below w.heap.size w W → Calls Try.prog 24 #[.agg #[.int .i64 x.a.k, .int .i64 x.a.w, .int .i64 x.a.c, .int .i64 x.a.s, .slice p n cap], .int .i64 k] W (FoundR x k W)) := fun W h =>
      Find_c x (.slice p n cap) k W (HK.out.next h).all HW.out hs.ht
    have HFD : Hid (∀ (W : World), Below w.heap.size w W → Calls Try.prog 25 #[.agg #[.int .i64 x.a.k, .int .i64 x.a.w, .int .i64 x.a.c, .int .i64 x.a.s, .slice p n cap], .int .i64 k] W (FindD x k W)) := fun W h =>
      FindR_c (fun b => b < W.heap.size) x (.slice p n cap) k W (HK.out.next h).all hs.al (fun _ h => h)
    have HL : Hid (∀ (W : World), Below w.heap.size w W → Calls Try.prog 27 #[.agg #[.int .i64 x.a.k, .int .i64 x.a.w, .int .i64 x.a.c, .int .i64 x.a.s, .slice p n cap]] W fun e w' => Below W.heap.size W w' ∧ ∃ (p : Option Addr) (l : List Int) (k : Nat), e = .returned (.slice p l.length k) ∧ RI w' l (.slice p l.length k) ∧ l = leavesI x) := fun W h =>
      (Leaves_c x (.slice p n cap) W (HK.out.next h).all HW.out hs.ht hs.n5).mono fun e w' h => leaves_reads h
    have HM : Hid (∀ (W : World), Below w.heap.size w W → Calls Try.prog 28 #[.agg #[.int .i64 x.a.k, .int .i64 x.a.w, .int .i64 x.a.c, .int .i64 x.a.s, .slice p n cap]] W fun e w' => Below W.heap.size W w' ∧ ∃ (p : Option Addr) (l : List Int) (k : Nat), e = .returned (.slice p l.length k) ∧ RI w' l (.slice p l.length k) ∧ l = leavesI x) := fun W h =>
      (LeavesR_c (fun b => b < W.heap.size) x (.slice p n cap) W (HK.out.next h).all hs.al (fun _ h => h)).mono fun e w' h => leaves_reads h
    have HLN : Hid ((leavesI x).length ≤ 1048576) := by
      have := hs.al
      show (leavesI x).length ≤ 1048576
      unfold leavesI; split
      · rw [List.length_map]; omega
      · simp
    have HI : Hid (∀ (W : World) (a b : List Int) (va vb : Value), a = b → RI W a va → RI W b vb → a.length ≤ 1048576 → Calls Try.prog 26 #[va, vb] W fun e w' => e = .returned (.bool true) ∧ Below W.heap.size W w') := fun W a b va vb hab h1 h2 hl => by
      subst hab
      have := ints_c va vb a a W h1 h2 hl hl
      rwa [decide_eq_true rfl] at this
    obtain ⟨tp, htp⟩ : ∃ z, z = topI x := ⟨_, rfl⟩
    have HP : Hid (∀ (W : World), Below w.heap.size w W → Calls Try.prog 29 #[.agg #[.int .i64 x.a.k, .int .i64 x.a.w, .int .i64 x.a.c, .int .i64 x.a.s, .slice p n cap]] W fun e w' => e = .returned (.int .i64 tp) ∧ Below W.heap.size W w') := fun W h => by
      rw [htp]; exact Top_c x (.slice p n cap) W (HK.out.next h).all HW.out hs.ht
    have HR : Hid (∀ (W : World), Below w.heap.size w W → Calls Try.prog 30 #[.agg #[.int .i64 x.a.k, .int .i64 x.a.w, .int .i64 x.a.c, .int .i64 x.a.s, .slice p n cap]] W fun e w' => e = .returned (.int .i64 tp) ∧ Below W.heap.size W w') := fun W h => by
      rw [htp]; exact TopR_c (fun b => b < W.heap.size) x (.slice p n cap) W (HK.out.next h).all hs.al (fun _ h => h)
    have HA : Hid (∀ (W : World), Calls Try.prog 18 #[] W fun e w' => e = .returned (.bool true) ∧ Below W.heap.size W w') := awake_c
    clear htp hs HK HW HD
    go_wp2_with fail
    refine (HFI.out w1 HB1.out).mono ?_
    rintro e w2 hfr
    obtain ⟨hb, pf, nf, kf, rfl, hrf⟩ := hfr.reads
    obtain ⟨is, his⟩ : ∃ b, b = (findI x k).isSome := ⟨_, rfl⟩
    rw [← his]
    have HIS := Lib.hid his
    have HRF := Lib.hid hrf
    have HB2 := Lib.hid (HB1.out.trans (hb.mono HB1.out.size))
    have HQ2 := Lib.hid (HQ1.out.next hb)
    clear hb hfr hrf his b0 b1 b2 b3 b4
    obtain ⟨⟨b0, b1, b2, b3, b4⟩, -⟩ := c5 HQ2.out
    go_wp2_with fail
    refine (HFD.out w2 HB2.out).mono ?_
    rintro e w3 hfr
    obtain ⟨hb, hln, pg, ng, kg, rfl, hrg⟩ := hfr.reads
    rw [← HIS.out]
    have HWN := Lib.hid hln
    have HG := Lib.hid hrg
    have HF := Lib.hid (HRF.out.next hb)
    have HB3 := Lib.hid (HB2.out.trans (hb.mono HB2.out.size))
    have HQ3 := Lib.hid (HQ2.out.next hb)
    have HBD := Lib.hid ((Below.refl w3.heap.size w3).drew)
    clear hb hfr hrg hln HIS HRF b0 b1 b2 b3 b4
    obtain ⟨⟨b0, b1, b2, b3, b4⟩, -⟩ := c5 HQ3.out
    go_wp2_with fail
    refine wp_region_noPanic ?_
    refine wp_region_held_drew (S := fun wx => wx.cell? ⟨w.heap.size, 0, none⟩ = some (.int .i64 x.a.k) ∧ wx.cell? ⟨w.heap.size, 1, none⟩ = some (.int .i64 x.a.w) ∧ wx.cell? ⟨w.heap.size, 2, none⟩ = some (.int .i64 x.a.c) ∧ wx.cell? ⟨w.heap.size, 3, none⟩ = some (.int .i64 x.a.s) ∧ wx.cell? ⟨w.heap.size, 4, none⟩ = some (.slice p n cap)) (by kernel_rfl) (by exact ⟨b0, b1, b2, b3, b4⟩) (fun hHeld => ?_)
    refine wpAnyH_take (i := 0) (v := ?vm0) rfl (by kernel_rfl) (by kernel_rfl) (by kernel_rfl) (fun _ _ _ h => h) (Or.inl ⟨by kernel_rfl, ?ym0⟩) (by assumption) ?rm0
    case ym0 => (intro wq hSw; (try dsimp only at hSw); go_simp; (try with_reducible rfl))
    (try simp only [Act.put, List.getElem_toArray, List.getElem_cons_zero, List.setIfInBounds_toArray, List.set_cons_zero, List.set_cons_succ])
    refine wpAnyH_take (i := 2) (v := ?vm2) rfl (by kernel_rfl) (by kernel_rfl) (by kernel_rfl) (fun _ _ _ h => h) (Or.inl ⟨by kernel_rfl, ?ym2⟩) (by assumption) ?rm2
    case ym2 => (intro wq hSw; (try dsimp only at hSw); go_simp; (try with_reducible rfl))
    (try simp only [Act.put, List.getElem_toArray, List.getElem_cons_succ, List.getElem_cons_zero, List.setIfInBounds_toArray, List.set_cons_zero, List.set_cons_succ])
    refine wpAnyH_ready (rs := [1]) (by kernel_rfl) (by simp) ?_
    refine AllReadyH.cons rfl (fun K hK => ?_) AllReadyH.nil
    go_simp
    refine (HL.out _ (HB3.out.drew)).mono ?_
    rintro ex W4 ⟨hb, pa, la, ca, rfl, hla, hea⟩; have HB4 := Lib.hid ((HB3.out.drew).trans (hb.mono (HB3.out.drew).size)); have HQ4 := Lib.hid ((HQ3.out.drew).next hb); have HA1 := Lib.hid (hla); have HE1 := Lib.hid hea; have HF1 := Lib.hid ((HF.out.next HBD.out).next hb); have HG1 := Lib.hid ((HG.out.next HBD.out).next hb); clear hla hea; clear hb; obtain ⟨⟨t0, t1, t2, t3, t4⟩, -⟩ := c5 (HQ4.out); have S4 := And.intro t0 (And.intro t1 (And.intro t2 (And.intro t3 t4))); clear t0 t1 t2 t3 t4
    (try dsimp only)
    refine hK.out _ _ (by exact S4) (fun hHeld => ?_)
    clear hK K
    (try simp only [Act.put, List.getElem_toArray, List.getElem_cons_succ, List.getElem_cons_zero, List.setIfInBounds_toArray, List.set_cons_zero, List.set_cons_succ])
    refine wpAnyH_ready (rs := [3]) (by kernel_rfl) (by simp) ?_
    refine AllReadyH.cons rfl (fun K hK => ?_) AllReadyH.nil
    go_simp
    refine (HM.out _ (HB4.out)).mono ?_
    rintro ex W5 ⟨hb, pb, lb, cb, rfl, hlb, heb⟩; have HB5 := Lib.hid ((HB4.out).trans (hb.mono (HB4.out).size)); have HQ5 := Lib.hid ((HQ4.out).next hb); have HA2 := Lib.hid (HA1.out.next hb); have HF2 := Lib.hid (HF1.out.next hb); have HG2 := Lib.hid (HG1.out.next hb); have HC2 := Lib.hid hlb; have HE2 := Lib.hid heb; clear hlb heb; clear hb; obtain ⟨⟨t0, t1, t2, t3, t4⟩, -⟩ := c5 (HQ5.out); have S5 := And.intro t0 (And.intro t1 (And.intro t2 (And.intro t3 t4))); clear t0 t1 t2 t3 t4
    (try dsimp only)
    refine hK.out _ _ (by exact S5) (fun hHeld => ?_)
    clear hK K
    (try simp only [Act.put, List.getElem_toArray, List.getElem_cons_succ, List.getElem_cons_zero, List.setIfInBounds_toArray, List.set_cons_zero, List.set_cons_succ])
    refine wpAnyH_ready (rs := [4]) (by kernel_rfl) (by simp) ?_
    refine AllReadyH.cons rfl (fun K hK => ?_) AllReadyH.nil
    go_simp
    refine (HI.out _ _ _ _ _ (HE1.out.trans HE2.out.symm) HA2.out HC2.out (by rw [HE1.out]; exact HLN.out)).mono ?_
    rintro ex W6 ⟨rfl, hb⟩; have HB6 := Lib.hid ((HB5.out).trans (hb.mono (HB5.out).size)); have HQ6 := Lib.hid ((HQ5.out).next hb); have HF3 := Lib.hid (HF2.out.next hb); have HG3 := Lib.hid (HG2.out.next hb); clear hb; obtain ⟨⟨t0, t1, t2, t3, t4⟩, -⟩ := c5 (HQ6.out); have S6 := And.intro t0 (And.intro t1 (And.intro t2 (And.intro t3 t4))); clear t0 t1 t2 t3 t4
    (try dsimp only)
    refine hK.out _ _ (by exact S6) (fun hHeld => ?_)
    clear hK K
    (try simp only [Act.put, List.getElem_toArray, List.getElem_cons_succ, List.getElem_cons_zero, List.setIfInBounds_toArray, List.set_cons_zero, List.set_cons_succ])
    refine wpAnyH_take (i := 5) (v := ?vm5) rfl (by kernel_rfl) (by kernel_rfl) (by kernel_rfl) (fun _ _ _ h => h) (Or.inl ⟨by kernel_rfl, ?ym5⟩) (by assumption) ?rm5
    case ym5 => (intro wq hSw; (try dsimp only at hSw); go_simp; (try with_reducible rfl))
    (try simp only [Act.put, List.getElem_toArray, List.getElem_cons_succ, List.getElem_cons_zero, List.setIfInBounds_toArray, List.set_cons_zero, List.set_cons_succ])
    refine wpAnyH_take (i := 6) (v := ?vm6) rfl (by kernel_rfl) (by kernel_rfl) (by kernel_rfl) (fun _ _ _ h => h) (Or.inl ⟨by kernel_rfl, ?ym6⟩) (by assumption) ?rm6
    case ym6 => (intro wq hSw; (try dsimp only at hSw); go_simp; (try with_reducible rfl))
    (try simp only [Act.put, List.getElem_toArray, List.getElem_cons_succ, List.getElem_cons_zero, List.setIfInBounds_toArray, List.set_cons_zero, List.set_cons_succ])
    refine wpAnyH_take (i := 7) (v := ?vm7) rfl (by kernel_rfl) (by kernel_rfl) (by kernel_rfl) (fun _ _ _ h => h) (Or.inl ⟨by kernel_rfl, ?ym7⟩) (by assumption) ?rm7
    case ym7 => (intro wq hSw; (try dsimp only at hSw); go_simp; (try with_reducible rfl))
    (try simp only [Act.put, List.getElem_toArray, List.getElem_cons_succ, List.getElem_cons_zero, List.setIfInBounds_toArray, List.set_cons_zero, List.set_cons_succ])
    refine wpAnyH_ready (rs := [8]) (by kernel_rfl) (by simp) ?_
    refine AllReadyH.cons rfl (fun K hK => ?_) AllReadyH.nil
    go_simp
    refine (HI.out _ _ _ _ _ rfl HF3.out HG3.out HWN.out).mono ?_
    rintro ex W7 ⟨rfl, hb⟩; have HB7 := Lib.hid ((HB6.out).trans (hb.mono (HB6.out).size)); have HQ7 := Lib.hid ((HQ6.out).next hb); clear hb; obtain ⟨⟨t0, t1, t2, t3, t4⟩, -⟩ := c5 (HQ7.out); have S7 := And.intro t0 (And.intro t1 (And.intro t2 (And.intro t3 t4))); clear t0 t1 t2 t3 t4
    (try dsimp only)
    refine hK.out _ _ (by exact S7) (fun hHeld => ?_)
    clear hK K
    (try simp only [Act.put, List.getElem_toArray, List.getElem_cons_succ, List.getElem_cons_zero, List.setIfInBounds_toArray, List.set_cons_zero, List.set_cons_succ])
    refine wpAnyH_take (i := 9) (v := ?vm9) rfl (by kernel_rfl) (by kernel_rfl) (by kernel_rfl) (fun _ _ _ h => h) (Or.inl ⟨by kernel_rfl, ?ym9⟩) (by assumption) ?rm9
    case ym9 => (intro wq hSw; (try dsimp only at hSw); go_simp; (try with_reducible rfl))
    (try simp only [Act.put, List.getElem_toArray, List.getElem_cons_succ, List.getElem_cons_zero, List.setIfInBounds_toArray, List.set_cons_zero, List.set_cons_succ])
    refine wpAnyH_take (i := 10) (v := ?vm10) rfl (by kernel_rfl) (by kernel_rfl) (by kernel_rfl) (fun _ _ _ h => h) (Or.inl ⟨by kernel_rfl, ?ym10⟩) (by assumption) ?rm10
    case ym10 => (intro wq hSw; (try dsimp only at hSw); go_simp; (try with_reducible rfl))
    (try simp only [Act.put, List.getElem_toArray, List.getElem_cons_succ, List.getElem_cons_zero, List.setIfInBounds_toArray, List.set_cons_zero, List.set_cons_succ])
    refine wpAnyH_take (i := 11) (v := ?vm11) rfl (by kernel_rfl) (by kernel_rfl) (by kernel_rfl) (fun _ _ _ h => h) (Or.inl ⟨by kernel_rfl, ?ym11⟩) (by assumption) ?rm11
    case ym11 => (intro wq hSw; (try dsimp only at hSw); go_simp; (try with_reducible rfl))
    (try simp only [Act.put, List.getElem_toArray, List.getElem_cons_succ, List.getElem_cons_zero, List.setIfInBounds_toArray, List.set_cons_zero, List.set_cons_succ])
    refine wpAnyH_take (i := 12) (v := ?vm12) rfl (by kernel_rfl) (by kernel_rfl) (by kernel_rfl) (fun _ _ _ h => h) (Or.inl ⟨by kernel_rfl, ?ym12⟩) (by assumption) ?rm12
    case ym12 => (intro wq hSw; (try dsimp only at hSw); go_simp; (try with_reducible rfl))
    (try simp only [Act.put, List.getElem_toArray, List.getElem_cons_succ, List.getElem_cons_zero, List.setIfInBounds_toArray, List.set_cons_zero, List.set_cons_succ])
    refine wpAnyH_take (i := 13) (v := ?vm13) rfl (by kernel_rfl) (by kernel_rfl) (by kernel_rfl) (fun _ _ _ h => h) (Or.inl ⟨by kernel_rfl, ?ym13⟩) (by assumption) ?rm13
    case ym13 => (intro wq hSw; (try dsimp only at hSw); go_simp; (try with_reducible rfl))
    (try simp only [Act.put, List.getElem_toArray, List.getElem_cons_succ, List.getElem_cons_zero, List.setIfInBounds_toArray, List.set_cons_zero, List.set_cons_succ])
    refine wpAnyH_take (i := 14) (v := ?vm14) rfl (by kernel_rfl) (by kernel_rfl) (by kernel_rfl) (fun _ _ _ h => h) (Or.inl ⟨by kernel_rfl, ?ym14⟩) (by assumption) ?rm14
    case ym14 => (intro wq hSw; (try dsimp only at hSw); go_simp; (try with_reducible rfl))
    (try simp only [Act.put, List.getElem_toArray, List.getElem_cons_succ, List.getElem_cons_zero, List.setIfInBounds_toArray, List.set_cons_zero, List.set_cons_succ])
    refine wpAnyH_take (i := 15) (v := ?vm15) rfl (by kernel_rfl) (by kernel_rfl) (by kernel_rfl) (fun _ _ _ h => h) (Or.inl ⟨by kernel_rfl, ?ym15⟩) (by assumption) ?rm15
    case ym15 => (intro wq hSw; (try dsimp only at hSw); go_simp; (try with_reducible rfl))
    (try simp only [Act.put, List.getElem_toArray, List.getElem_cons_succ, List.getElem_cons_zero, List.setIfInBounds_toArray, List.set_cons_zero, List.set_cons_succ])
    refine wpAnyH_take (i := 16) (v := ?vm16) rfl (by kernel_rfl) (by kernel_rfl) (by kernel_rfl) (fun _ _ _ h => h) (Or.inl ⟨by kernel_rfl, ?ym16⟩) (by assumption) ?rm16
    case ym16 => (intro wq hSw; (try dsimp only at hSw); go_simp; (try with_reducible rfl))
    (try simp only [Act.put, List.getElem_toArray, List.getElem_cons_succ, List.getElem_cons_zero, List.setIfInBounds_toArray, List.set_cons_zero, List.set_cons_succ])
    refine wpAnyH_take (i := 18) (v := ?vm18) rfl (by kernel_rfl) (by kernel_rfl) (by kernel_rfl) (fun _ _ _ h => h) (Or.inl ⟨by kernel_rfl, ?ym18⟩) (by assumption) ?rm18
    case ym18 => (intro wq hSw; (try dsimp only at hSw); go_simp; (try with_reducible rfl))
    (try simp only [Act.put, List.getElem_toArray, List.getElem_cons_succ, List.getElem_cons_zero, List.setIfInBounds_toArray, List.set_cons_zero, List.set_cons_succ])
    refine wpAnyH_ready (rs := [17]) (by kernel_rfl) (by simp) ?_
    refine AllReadyH.cons rfl (fun K hK => ?_) AllReadyH.nil
    go_simp
    refine (HP.out _ (HB7.out)).mono ?_
    rintro ex W8 ⟨rfl, hb⟩; have HB8 := Lib.hid ((HB7.out).trans (hb.mono (HB7.out).size)); have HQ8 := Lib.hid ((HQ7.out).next hb); clear hb; obtain ⟨⟨t0, t1, t2, t3, t4⟩, -⟩ := c5 (HQ8.out); have S8 := And.intro t0 (And.intro t1 (And.intro t2 (And.intro t3 t4))); clear t0 t1 t2 t3 t4
    (try dsimp only)
    refine hK.out _ _ (by exact S8) (fun hHeld => ?_)
    clear hK K
    (try simp only [Act.put, List.getElem_toArray, List.getElem_cons_succ, List.getElem_cons_zero, List.setIfInBounds_toArray, List.set_cons_zero, List.set_cons_succ])
    refine wpAnyH_ready (rs := [19]) (by kernel_rfl) (by simp) ?_
    refine AllReadyH.cons rfl (fun K hK => ?_) AllReadyH.nil
    go_simp
    refine (HR.out _ (HB8.out)).mono ?_
    rintro ex W9 ⟨rfl, hb⟩; have HB9 := Lib.hid ((HB8.out).trans (hb.mono (HB8.out).size)); have HQ9 := Lib.hid ((HQ8.out).next hb); clear hb; obtain ⟨⟨t0, t1, t2, t3, t4⟩, -⟩ := c5 (HQ9.out); have S9 := And.intro t0 (And.intro t1 (And.intro t2 (And.intro t3 t4))); clear t0 t1 t2 t3 t4
    (try dsimp only)
    refine hK.out _ _ (by exact S9) (fun hHeld => ?_)
    clear hK K
    (try simp only [Act.put, List.getElem_toArray, List.getElem_cons_succ, List.getElem_cons_zero, List.setIfInBounds_toArray, List.set_cons_zero, List.set_cons_succ])
    refine wpAnyH_take (i := 20) (v := ?vm20) rfl (by kernel_rfl) (by kernel_rfl) (by kernel_rfl) (fun _ _ _ h => h) (Or.inl ⟨by kernel_rfl, ?ym20⟩) (by assumption) ?rm20
    case ym20 => (intro wq hSw; (try dsimp only at hSw); go_simp; (try with_reducible rfl))
    (try simp only [Act.put, List.getElem_toArray, List.getElem_cons_succ, List.getElem_cons_zero, List.setIfInBounds_toArray, List.set_cons_zero, List.set_cons_succ])
    refine wpAnyH_take (i := 21) (v := ?vm21) rfl (by kernel_rfl) (by kernel_rfl) (by kernel_rfl) (fun _ _ _ h => h) (Or.inl ⟨by kernel_rfl, ?ym21⟩) (by assumption) ?rm21
    case ym21 => (intro wq hSw; (try dsimp only at hSw); go_simp; (try with_reducible rfl))
    (try simp only [Act.put, List.getElem_toArray, List.getElem_cons_succ, List.getElem_cons_zero, List.setIfInBounds_toArray, List.set_cons_zero, List.set_cons_succ])
    refine wpAnyH_take (i := 22) (v := ?vm22) rfl (by kernel_rfl) (by kernel_rfl) (by kernel_rfl) (fun _ _ _ h => h) (Or.inl ⟨by kernel_rfl, ?ym22⟩) (by assumption) ?rm22
    case ym22 => (intro wq hSw; (try dsimp only at hSw); go_simp; (try with_reducible rfl))
    (try simp only [Act.put, List.getElem_toArray, List.getElem_cons_succ, List.getElem_cons_zero, List.setIfInBounds_toArray, List.set_cons_zero, List.set_cons_succ])
    refine wpAnyH_ready (rs := [23]) (by kernel_rfl) (by simp) ?_
    refine AllReadyH.cons rfl (fun K hK => ?_) AllReadyH.nil
    go_simp
    refine (HA.out _).mono ?_
    rintro ex W10 ⟨rfl, hb⟩; have HB10 := Lib.hid ((HB9.out).trans (hb.mono (HB9.out).size)); have HQ10 := Lib.hid ((HQ9.out).next hb); clear hb; obtain ⟨⟨t0, t1, t2, t3, t4⟩, -⟩ := c5 (HQ10.out); have S10 := And.intro t0 (And.intro t1 (And.intro t2 (And.intro t3 t4))); clear t0 t1 t2 t3 t4
    (try dsimp only)
    refine hK.out _ _ (by exact S10) (fun hHeld => ?_)
    clear hK K
    (try simp only [Act.put, List.getElem_toArray, List.getElem_cons_succ, List.getElem_cons_zero, List.setIfInBounds_toArray, List.set_cons_zero, List.set_cons_succ])
    refine wpAnyH_take (i := 24) (v := ?vm24) rfl (by kernel_rfl) (by kernel_rfl) (by kernel_rfl) (fun _ _ _ h => h) (Or.inl ⟨by kernel_rfl, ?ym24⟩) (by assumption) ?rm24
    case ym24 => (intro wq hSw; (try dsimp only at hSw); go_simp; (try with_reducible rfl))
    (try simp only [Act.put, List.getElem_toArray, List.getElem_cons_succ, List.getElem_cons_zero, List.setIfInBounds_toArray, List.set_cons_zero, List.set_cons_succ])
    refine wpAnyH_take (i := 25) (v := ?vm25) rfl (by kernel_rfl) (by kernel_rfl) (by kernel_rfl) (fun _ _ _ h => h) (Or.inl ⟨by kernel_rfl, ?ym25⟩) (by assumption) ?rm25
    case ym25 => (intro wq hSw; (try dsimp only at hSw); go_simp; (try with_reducible rfl))
    (try simp only [Act.put, List.getElem_toArray, List.getElem_cons_succ, List.getElem_cons_zero, List.setIfInBounds_toArray, List.set_cons_zero, List.set_cons_succ])
    refine wpAnyH_done (by kernel_rfl) ?_ _
    refine NoPanic.normal ?_
    go_wp2_with fail
    go_ret
    exact ⟨rfl, HB10.out⟩
end Go.Proofs.Ytbbmfpdlkogkfaa.Co
end
section
namespace Go.Proofs.Ytbbmfpdlkogkfaa.Co
open Go.RowKit Go.Shelf
theorem insert_fine9 {x : Con} {near c se : Int} (hf : fine x) (hc : I64 c) (hse : I64 se) : fine (insertI x near c se).1 := by
  unfold insertI
  by_cases h1 : treeB x = false
  · rw [if_pos h1]; exact zeroT_fine
  rw [if_neg h1]
  have htr : treeB x = true := by cases h : treeB x; exact absurd h h1; rfl
  by_cases h2 : hasB x c = true
  · rw [if_pos h2]; exact zeroT_fine
  rw [if_neg h2]
  by_cases h3 : c < 1 ∨ se < 0
  · rw [if_pos h3]; exact zeroT_fine
  rw [if_neg h3]
  by_cases h4 : near ≠ 0 ∧ hasB x near = false
  · rw [if_pos h4]; exact zeroT_fine
  rw [if_neg h4]
  cases hg : get x (insSpot x near).1 with
  | none => exact zeroT_fine
  | some q =>
    simp only
    by_cases h5 : q.ks.length = 64 ∨ (all x).length = 128
    · rw [if_pos h5]; exact zeroT_fine
    rw [if_neg h5]
    have hq := fine_get hf hg
    have hl : q.ks.length ≤ 64 := by
      have hsh := shape_get (tree_parts htr).1 hg
      by_cases hk : q.a.k = 0
      · rw [shape_leaf hsh hk]; simp
      · obtain ⟨qa, qk⟩ := q
        obtain ⟨_, _, _, _, _, _, _, p8, _⟩ := split_shape hsh hk
        exact p8
    obtain ⟨qa, qk⟩ := q
    obtain ⟨q1, q2, q3⟩ := fine_kids hq
    simp only [Tr.a_mk, Tr.ks_mk] at hl ⊢
    refine fine_put hf (fine_mk q1 ?_ fun y hy => ?_)
    · simp only [List.length_append, List.length_take, List.length_cons, List.length_drop]; omega
    · rcases List.mem_append.1 hy with h | h
      · exact q3 y (List.mem_of_mem_take h)
      · rcases List.mem_cons.1 h with rfl | h
        · exact fine_mk ⟨(show I64 0 from ⟨by decide, by decide⟩), (show I64 65536 from ⟨by decide, by decide⟩), hc, hse⟩ (by simp) (by simp)
        · exact q3 y (List.mem_of_mem_drop h)
section
variable {x : Con} {p : Option Addr} {n c : Nat} {W : World} {Z : Nat → Prop}
theorem chk_k (hK : KV W Z x.ks (.slice p n c)) (hs : Small x) (ht : treeB x = true) : Calls Try.prog 19 #[.agg #[.int .i64 x.a.k, .int .i64 x.a.w, .int .i64 x.a.c, .int .i64 x.a.s, .slice p n c]] W fun e w' => e = .returned (.int .i64 0) ∧ Below W.heap.size W w' := by
  have := check_c _ x (.slice p n c) W hK.all hs.wide hs.ht (fun _ h => h)
  rwa [checkI_eq, if_neg (by rw [ht]; simp)] at this
theorem chkI_k (hK : KV W Z x.ks (.slice p n c)) (hs : Small x) : Calls Try.prog 19 #[.agg #[.int .i64 x.a.k, .int .i64 x.a.w, .int .i64 x.a.c, .int .i64 x.a.s, .slice p n c]] W fun e w' => e = .returned (.int .i64 (checkI x)) ∧ Below W.heap.size W w' :=
  check_c _ x (.slice p n c) W hK.all hs.wide hs.ht (fun _ h => h)
theorem lvs_k (hK : KV W Z x.ks (.slice p n c)) (hs : Small x) : Calls Try.prog 27 #[.agg #[.int .i64 x.a.k, .int .i64 x.a.w, .int .i64 x.a.c, .int .i64 x.a.s, .slice p n c]] W fun e w' => Below W.heap.size W w' ∧ ∃ (p : Option Addr) (l : List Int) (k : Nat), e = .returned (.slice p l.length k) ∧ RI w' l (.slice p l.length k) ∧ l = leavesI x :=
  (Leaves_c x (.slice p n c) W hK.all hs.wide hs.ht hs.n5).mono fun _ _ h => leaves_reads h
theorem ints_k {a b : List Int} {va vb : Value} (hab : a = b) (ha : RI W a va) (hb : RI W b vb) (hl : a.length ≤ 1048576) : Calls Try.prog 26 #[va, vb] W fun e w' => e = .returned (.bool true) ∧ Below W.heap.size W w' := by
  subst hab
  have := ints_c va vb a a W ha hb hl hl
  rwa [decide_eq_true rfl] at this
theorem small_len (hs : Small x) : (leavesI x).length ≤ 1048576 := by
  have := hs.al
  unfold leavesI
  split
  · rw [List.length_map]; omega
  · simp
theorem rem_k (a : Int) (hK : KV W Z x.ks (.slice p n c)) (hs : Small x) (hB : ∀ b, Z b → b < W.heap.size) : Calls Try.prog 33 #[.agg #[.int .i64 x.a.k, .int .i64 x.a.w, .int .i64 x.a.c, .int .i64 x.a.s, .slice p n c], .int .i64 a] W (AnsR 0 (removeD x a) W) :=
  (remove_c x (.slice p n c) a W (hK.weak hB) hs.wide hs.ht hs.wd).mono fun _ _ h => by
    have h1 := h.1
    rw [show removeI x a = removeD x a from removeD_eq x a] at h1
    refine h1.ans h.2 ?_
    by_cases h0 : (removeD x a).2 = 0
    · exact remove_fine hs.f h0
    · unfold removeD at h0 ⊢
      split
      · exact zeroT_fine
      · split
        · exact zeroT_fine
        · rename_i h2 h3
          rw [if_neg h2, if_neg h3] at h0
          exact absurd rfl h0
theorem ins_k (a b s : Int) (hb : I64 b) (hs9 : I64 s) (hK : KV W Z x.ks (.slice p n c)) (hs : Small x) (hB : ∀ b, Z b → b < W.heap.size) : Calls Try.prog 31 #[.agg #[.int .i64 x.a.k, .int .i64 x.a.w, .int .i64 x.a.c, .int .i64 x.a.s, .slice p n c], .int .i64 a, .int .i64 b, .int .i64 s] W (AnsR 0 (insertI x a b s) W) :=
  (Insert_c x (.slice p n c) a b s W (hK.weak hB) hs.wide hs.ht hs.wd hs.n5).mono fun _ _ h => h.1.ans h.2 (insert_fine9 hs.f hb hs9)
theorem same_self {y z : Con} {q : Option Addr} {n' d : Nat} {Z' : Nat → Prop} (h : y = z) (h1 : KV W Z y.ks (.slice p n c)) (h2 : KV W Z' z.ks (.slice q n' d)) : Calls Try.prog 21 #[.agg #[.int .i64 y.a.k, .int .i64 y.a.w, .int .i64 y.a.c, .int .i64 y.a.s, .slice p n c], .agg #[.int .i64 z.a.k, .int .i64 z.a.w, .int .i64 z.a.c, .int .i64 z.a.s, .slice q n' d]] W fun e w' => e = .returned (.bool true) ∧ Below W.heap.size W w' :=
  same_k (by subst h; exact sameB_refl _) h1 h2
end
theorem small_of {x : Con} (hc : cnt x ≤ 900) (hf : fine x) : Small x := ⟨hc, hf⟩
theorem few_cnt {x : Con} (h : nodesC x 0 ≤ 500) : cnt x ≤ 500 := by have := pre_len x [] 0 h; unfold cnt; omega
end Go.Proofs.Ytbbmfpdlkogkfaa.Co
end
section
namespace Go.Proofs.Ytbbmfpdlkogkfaa.Co
open Go.RowKit Go.Shelf
/-- What a weight that is grown becomes. -/
def growZ (z : Int) (y : Nat) : Int := (growL [z] 0 y).getD 0 0
theorem grow9_c (b o : Nat) (z : Int) (y : Nat) (w : World) (hz : w.cell? ⟨b, o + 1, none⟩ = some (.int .i64 z)) (hf : w.frozen? ⟨b, o + 1, none⟩ = false) :
    Calls Try.prog 81 #[.pointer (some ⟨b, o, none⟩), .float .f64 y] w fun e w' => e = .returned (.int .i64 (growE [z] 0)) ∧ ∃ w1, Below w.heap.size w w1 ∧ ((growE [z] 0 = 0 ∧ w' = w1.setCell ⟨b, o + 1, none⟩ (.int .i64 (growZ z y))) ∨ (growE [z] 0 ≠ 0 ∧ w' = w1)) := by
  have hbl : b < w.heap.size := World.block_lt_of_cell? w ⟨b, o + 1, none⟩ hz
  have hq := Blk.new w 3 #[.int .i64 z]
  have hb0 := (Below.refl w.heap.size w).alloc (Nat.le_refl _) (.cells #[.int .i64 z] 3)
  have HG := Lib.hid (grow_c (.slice (some ⟨w.heap.size, 0, none⟩) 1 1) [z] 0 y (w.alloc (.cells #[.int .i64 z] 3)) (.inr ⟨w.heap.size, 0, 1, rfl, by simp, by simp, by simp, fun j hj => by
    obtain rfl : j = 0 := by simpa using hj
    exact hq.at_ rfl⟩))
  have HB0 := Lib.hid hb0
  have HZ := Lib.hid hz
  have HF := Lib.hid hf
  have hR0 : growE [z] 0 = 0 → growR [z] 0 y = [growZ z y] := fun h => by
    unfold growR growZ
    rw [if_pos h]
    have hl := growL_length [z] 0 y
    obtain ⟨a, ha⟩ : ∃ a, growL [z] (Int.toNat 0) y = [a] := List.length_eq_one_iff.1 hl
    rw [ha]
    have ha : growL [z] 0 y = [a] := ha
    rw [ha]; rfl
  have HR0 := Lib.hid hR0
  obtain ⟨E, hE⟩ : ∃ E, E = growE [z] 0 := ⟨_, rfl⟩
  obtain ⟨L, hL⟩ : ∃ L, L = growR [z] 0 y := ⟨_, rfl⟩
  rw [← hE] at HG HR0 ⊢
  rw [← hL] at HG HR0
  obtain ⟨x, hx⟩ : ∃ x, x = growZ z y := ⟨_, rfl⟩
  rw [← hx] at HR0 ⊢
  clear hq hb0 hf hR0 hE hL hx
  by_cases h0 : E = 0
  · subst h0
    have hl := HR0.out rfl
    subst hl
    clear HR0
    go_enter Try.func81, Try.ntmps81
    go_wp2_with fail
    refine HG.out.mono ?_
    rintro e w1 ⟨v', rfl, hb, ho⟩
    obtain ⟨g, cap, rfl, hge, hgl, hsi, -⟩ := ho.form (by simp)
    have hb1 := HB0.out.trans (hb.mono HB0.out.size)
    have hg0 : w1.cell? ⟨g, 0, none⟩ = some (.int .i64 x) := hsi 0 (by simp)
    have hc1 : w1.cell? ⟨b, o + 1, none⟩ = some (.int .i64 z) := (hb1.cell (p := ⟨b, o + 1, none⟩) hbl).trans HZ.out
    have hf1 : w1.frozen? ⟨b, o + 1, none⟩ = false := ((bcell (W := w) hb1).2 b (o + 1) hbl).trans HF.out
    have HB1 := Lib.hid hb1
    clear hb ho hb1 hsi hz
    go_wp2_with fail
    go_ret
    exact ⟨rfl, w1, HB1.out, .inl ⟨trivial, rfl⟩⟩
  · have HN := Lib.hid h0
    have hne : (E == 0) = false := by simpa using h0
    clear HR0
    go_enter Try.func81, Try.ntmps81
    go_wp2_with fail
    refine HG.out.mono ?_
    rintro e w1 ⟨v', rfl, hb, ho⟩
    have HB1 := Lib.hid (HB0.out.trans (hb.mono HB0.out.size))
    clear hb ho
    go_wp2_with fail
    go_ret
    exact ⟨rfl, w1, HB1.out, .inr ⟨HN.out, rfl⟩⟩
end Go.Proofs.Ytbbmfpdlkogkfaa.Co
end
section
namespace Go.Proofs.Ytbbmfpdlkogkfaa.Co
open Go.RowKit Go.Shelf
/-- From below upward: the first split of the kind, of two kids or more. -/
def growN (kind : Int) (y : Nat) (x : Con) (way : List Nat) : Nat → Con × Int
  | 0 => (x, 120)
  | d + 1 => match get x (way.take d), get x (way.take (d + 1)) with
    | some p, some q => if p.a.k = kind ∧ 2 ≤ p.ks.length then (if growE [q.a.w] 0 = 0 then (put x (way.take (d + 1)) (.mk { q.a with w := growZ q.a.w y } q.ks), 0) else (x, growE [q.a.w] 0)) else growN kind y x way d
    | _, _ => (x, 120)
def growF (kind : Int) (y : Nat) (x : Con) (way : List Nat) : Con × Int := growN kind y x way way.length
theorem growN_at {kind : Int} {y : Nat} {x p q : Con} {way : List Nat} {d : Nat} (hp : get x (way.take d) = some p) (hq : get x (way.take (d + 1)) = some q) : growN kind y x way (d + 1) = if p.a.k = kind ∧ 2 ≤ p.ks.length then (if growE [q.a.w] 0 = 0 then (put x (way.take (d + 1)) (.mk { q.a with w := growZ q.a.w y } q.ks), 0) else (x, growE [q.a.w] 0)) else growN kind y x way d := by
  simp only [growN, hp, hq]
theorem enters_grow : ∀ args w, (callFunc 80 args).run Try.prog w = .ok (.enter 80 args) w := enters_of Try.func80 (by kernel_rfl) rfl
theorem turn_false {F : Nat → Prop} {w w' : World} (hb : Below w.heap.size w w') : Turn F (fun _ => False) w w' := ⟨hb.os, hb.tape, hb.output, hb.size, fun i hl _ => hb.block i hl, fun _ h => h.elim⟩
/-- What lies along a way. -/
theorem way_at {t z : ATr} {u : List Nat} (h : get t u = some z) {k : Nat} (hk : k < u.length) : ∃ (p q : ATr) (i : Nat), u[k]? = some i ∧ get t (u.take k) = some p ∧ p.ks[i]? = some q ∧ get t (u.take (k + 1)) = some q ∧ ∀ b o, loc b o t (u.take (k + 1)) = (p.a.g, i * 5) := by
  have hi : u[k]? = some u[k] := List.getElem?_eq_getElem hk
  obtain ⟨p, q, h1, h2, h3⟩ := loc_step (b := 0) (o := 0) h hi
  have h4 : get t (u.take (k + 1)) = some q := by
    rw [take_snoc hi, get_append _ h1]; obtain ⟨a, ks⟩ := p; simp only [get]; rw [show ks[u[k]]? = some q from h2]
  refine ⟨p, q, u[k], hi, h1, h2, h4, fun b o => ?_⟩
  rw [take_snoc hi, loc_append _ h1]
  obtain ⟨a, ks⟩ := p
  rw [loc_cons (show ks[u[k]]? = some q from h2)]
  rfl
set_option maxHeartbeats 8000000 in
set_option maxRecDepth 100000 in
theorem how_grow (kb fb : Nat) (kind : Int) (y : Nat) : HowC 80 #[.pointer (some ⟨kb, 0, none⟩), .pointer (some ⟨fb, 0, none⟩)] (fun w => Blk w kb 3 #[.int .i64 kind] ∧ Blk w fb 48 #[.float .f64 y]) (growF kind y) := by
  intro N w r t u j p0 y0 v hK hN hR hW hp hy hfi hlen
  have hgy : get t (u ++ [j]) = some y0 := by rw [get_append _ hp]; obtain ⟨a, ks⟩ := p0; simp only [get]; rw [show ks[j]? = some y0 from hy]
  have hpos : 0 < (u ++ [j]).length := by simp
  obtain ⟨W, hWe⟩ : ∃ W, W = u ++ [j] := ⟨_, rfl⟩
  rw [← hWe] at hgy hW hlen hpos ⊢
  clear hp hy hWe
  obtain ⟨q, c, rfl⟩ := hW.slice
  have hnc : W.length ≤ c := by
    obtain ⟨q', c', e, -, h2, -⟩ := hW
    obtain ⟨-, -, rfl⟩ := Value.slice.inj e
    exact h2
  obtain ⟨bq, rfl⟩ : ∃ b, q = some ⟨b, 0, none⟩ := by
    obtain ⟨q', c', e, -, -, -, -, h5⟩ := hW
    obtain ⟨b, e2, -⟩ := h5 0 _ (List.getElem?_eq_getElem hpos)
    obtain ⟨rfl, -, -⟩ := Value.slice.inj e
    exact ⟨b, e2⟩
  obtain ⟨R, hRR⟩ : ∃ R, R = fun (e : Ending) (w' : World) => e = .returned (.int .i64 (growF kind y (era t) W).2) ∧ Turn (fun b => b ∈ blks (topT r t)) (fun _ => False) w w' ∧ ((growF kind y (era t) W).2 = 0 → ∃ t', Root N w' r t' ∧ era t' = (growF kind y (era t) W).1) := ⟨_, rfl⟩
  rw [← hRR]
  have HRR := Lib.hid hRR
  have HGF : Hid (growF kind y (era t) W = growN kind y (era t) W W.length) := rfl
  have HR := Lib.hid hR
  have HW := Lib.hid hW
  have HGY := Lib.hid hgy
  have HNN := Lib.hid hN
  have HK := Lib.hid hK
  obtain ⟨n, hn⟩ : ∃ n, n = W.length := ⟨_, rfl⟩
  rw [← hn] at hnc hlen hpos HGF ⊢
  have HN := Lib.hid hn
  clear hRR hR hW hgy hN hK hn
  show Calls Try.prog 80 #[.pointer (some ⟨r, 0, none⟩), .slice (some ⟨bq, 0, none⟩) n c, .pointer (some ⟨kb, 0, none⟩), .pointer (some ⟨fb, 0, none⟩)] w R
  go_enter Try.func80, Try.ntmps80
  go_upto_region 2 with fail
  go_loopw [7] (fun z wr => ∃ d : Nat, d ≤ n ∧ z = .int .i64 d ∧ Below w.heap.size w wr ∧ Asd (growF kind y (era t) W = growN kind y (era t) W d)) (fun z _ => (intOf z).toNat)
  case atStart => exact ⟨n, Nat.le_refl _, rfl, Below.refl _ _, HGF.out⟩
  case round =>
    clear HGF
    obtain ⟨d, hd, rfl, hB, hA⟩ := hrel
    have HB := Lib.hid hB
    clear hB
    have HA := Lib.hid (show growF kind y (era t) W = growN kind y (era t) W d from hA)
    clear hA
    cases d with
    | zero =>
      go_wp2_with fail
      show R (.returned (.int .i64 120)) _
      rw [HRR.out]
      refine ⟨by rw [HA.out]; rfl, turn_false HB.out, fun h => ?_⟩
      rw [HA.out] at h
      exact absurd h (by simp [growN])
    | succ k =>
      obtain ⟨p, q, i, hi, hp, hq, hgq, hloc⟩ := way_at HGY.out (k := k) (by rw [← HN.out]; omega)
      have hWk := HW.out.front (k + 1) (by rw [← HN.out]; exact hd)
      rw [take_snoc hi] at hWk
      have HRW : Hid (Root N wr r t) := HR.out.next HB.out
      have HC := Lib.hid (cut_c (fun _ => True) t p r 0 (W.take k) i _ wr HRW.out.held (hWk.next HB.out) hp)
      have hh := HRW.out.held.get hp
      have hwide := (hfi [] (era t) rfl).2
      have h0 := hh.cells 0 _ rfl
      have h4 := hh.cells 4 _ rfl
      rw [slA_some hq] at h4
      simp only [Nat.add_zero] at h0
      obtain ⟨L, hL⟩ : ∃ L, L = loc r 0 t (W.take k) := ⟨_, rfl⟩
      rw [← hL] at HC h0 h4
      obtain ⟨lb, lo⟩ := L
      have hstep := growN_at (kind := kind) (y := y) (x := era t) (p := era p) (q := era q) (way := W) (d := k) (by rw [era_get, hp]; rfl) (by rw [era_get, hgq]; rfl)
      rw [era_a, era_a, era_ks, era_ks, List.length_map] at hstep
      have hq5 := HRW.out.held.get hgq
      rw [hloc] at hq5
      have hqw := hq5.cells 1 _ rfl
      have hqf := hq5.free (i * 5 + 1)
      have hil := (List.getElem?_eq_some_iff.1 hq).1
      have hlbp : lb ≠ p.a.g := fun e => by
        have h1 := HRW.out.loc_not hp
        rw [← hL] at h1
        have h2 : p.a.g ∈ blks p := by obtain ⟨a, ks⟩ := p; rw [blks_kid (show ks[i]? = some q from hq)]; simp
        exact h1 (by show lb ∈ blks p; rw [e]; exact h2)
      have hkc := (HK.out.1.next HB.out).at_ (i := 0) rfl
      have hfc := (HK.out.2.next HB.out).at_ (i := 0) rfl
      obtain ⟨cur, hcur, -⟩ := HRW.out.block hgq
      rw [hloc] at hcur
      have hfbp : fb ≠ p.a.g := (HK.out.2.next HB.out).ne_ (show Blk wr p.a.g 24 cur from hcur) (by decide)
      have HGQ := Lib.hid hgq
      have HLOC := Lib.hid (hloc r 0)
      have hset := fun (w1 : World) (h : Below wr.heap.size wr w1) (z : Int) => (HRW.out.next h).set (f := 1) (s' := .mk { q.a with d := { q.a.d with w := z } } q.ks) (v := .int .i64 z) hgq (by omega) rfl (by obtain ⟨a, ks⟩ := q; rfl) (fun w' ho => by obtain ⟨a, ks⟩ := q; exact ho) (Nat.le_trans HNN.out (Nat.le_trans HB.out.size h.size))
      rw [hloc] at hset
      have HSET := Lib.hid hset
      have hera : ∀ z : Int, era (put t (W.take (k + 1)) (.mk { q.a with d := { q.a.d with w := z } } q.ks)) = put (era t) (W.take (k + 1)) (.mk { q.a.d with w := z } (q.ks.map era)) := fun z => by rw [era_put hgq, era_mk]
      have HERA := Lib.hid hera
      obtain ⟨pk, hpk⟩ : ∃ a, a = p.a.d.k := ⟨_, rfl⟩
      obtain ⟨pg, hpg⟩ : ∃ a, a = p.a.g := ⟨_, rfl⟩
      obtain ⟨pc, hpc⟩ : ∃ a, a = p.a.cap := ⟨_, rfl⟩
      obtain ⟨np, hnp⟩ : ∃ a, a = p.ks.length := ⟨_, rfl⟩
      obtain ⟨qw, hqv⟩ : ∃ a, a = q.a.d.w := ⟨_, rfl⟩
      rw [← hpk] at h0 hstep
      rw [← hpg] at h4 hqw hqf hlbp hfbp HSET
      rw [← hpc] at h4
      rw [← hnp] at h4 hstep hil
      rw [← hqv] at hqw hstep
      have HST := Lib.hid hstep
      have HLB := Lib.hid (World.block_lt_of_cell? wr ⟨lb, lo + 4, none⟩ h4)
      have HPL := Lib.hid (World.block_lt_of_cell? wr ⟨pg, i * 5 + 1, none⟩ hqw)
      have HFL := Lib.hid (World.block_lt_of_cell? wr ⟨fb, 0, none⟩ hfc)
      have hd0 : (0 : Int) < (k : Int) + 1 := by omega
      have hd1 : k + 1 ≤ c := by omega
      have hi0 : (0 : Int) ≤ (i : Int) := by omega
      have hi1 : (i : Int) < (np : Int) := by omega
      have HGR : Hid (∀ W', Drew wr W' → Calls Try.prog 81 #[.pointer (some ⟨pg, i * 5, none⟩), .float .f64 y] W' fun e w' => e = .returned (.int .i64 (growE [qw] 0)) ∧ ∃ w1, Below wr.heap.size wr w1 ∧ ((growE [qw] 0 = 0 ∧ w' = w1.setCell ⟨pg, i * 5 + 1, none⟩ (.int .i64 (growZ qw y))) ∨ (growE [qw] 0 ≠ 0 ∧ w' = w1))) := by
        rintro W' ⟨m, rfl⟩
        refine (grow9_c pg (i * 5) qw y (wr.drewN m) hqw hqf).mono ?_
        rintro e w' ⟨h1, w1, h2, h3⟩
        exact ⟨h1, w1, (below_drewN (Below.refl _ _) m).trans h2, h3⟩
      have HKEEP : Hid (∀ w7 w8 : World, Below wr.heap.size wr w7 → ((growE [qw] 0 = 0 ∧ w8 = w7.setCell ⟨pg, i * 5 + 1, none⟩ (.int .i64 (growZ qw y))) ∨ (growE [qw] 0 ≠ 0 ∧ w8 = w7)) → w8.cell? ⟨lb, lo + 4, none⟩ = some (.slice (some ⟨pg, 0, none⟩) np pc) ∧ w8.cell? ⟨fb, 0, none⟩ = some (.float .f64 y)) := by
        intro w7 w8 hb hcs
        have e1 := (cell_same (hb.block lb HLB.out) (lo + 4)).trans h4
        have e2 := (cell_same (hb.block fb HFL.out) 0).trans hfc
        rcases hcs with ⟨-, rfl⟩ | ⟨-, rfl⟩
        · exact ⟨(cell_same (Below.heap_setCell w7 ⟨pg, i * 5 + 1, none⟩ _ lb hlbp) _).trans e1, (cell_same (Below.heap_setCell w7 ⟨pg, i * 5 + 1, none⟩ _ fb hfbp) _).trans e2⟩
        · exact ⟨e1, e2⟩
      clear hq5 hcur hset hera hstep hpk hpg hpc hnp hqv hh hgq hq hp hL hloc hWk hi hqw hqf hil hlbp hfbp HRW
      by_cases hk1 : pk = kind
      · subst hk1
        by_cases hk2 : 2 ≤ np
        · have hk3 : (2 : Int) ≤ (np : Int) := by omega
          go_upto_region 4 with fail
          go_wp2_with fail
          refine HC.out.mono ?_
          rintro e w4 ⟨rfl, m4, rfl⟩
          go_upto_region 5 with fail
          refine wp_region_noPanic ?_
          refine wp_region_held_drew (S := fun wx => wx.cell? ⟨lb, lo, none⟩ = some (.int .i64 pk) ∧ wx.cell? ⟨lb, lo + 4, none⟩ = some (.slice (some ⟨pg, 0, none⟩) np pc) ∧ wx.cell? ⟨kb, 0, none⟩ = some (.int .i64 pk)) (by kernel_rfl) (by exact ⟨h0, h4, hkc⟩) (fun hHeld => ?_)
          refine wpAnyH_take (i := 0) (v := ?va0) rfl (by kernel_rfl) (by kernel_rfl) (by kernel_rfl) (fun _ _ _ h => h) (Or.inl ⟨by kernel_rfl, ?ya0⟩) (by assumption) ?ra0
          case ya0 => (intro wq hSw; (try dsimp only at hSw); go_simp; (try with_reducible rfl))
          (try simp only [Act.put, List.getElem_toArray, List.getElem_cons_zero, List.setIfInBounds_toArray, List.set_cons_zero, List.set_cons_succ])
          refine wpAnyH_take (i := 1) (v := ?va1) rfl (by kernel_rfl) (by kernel_rfl) (by kernel_rfl) (fun _ _ _ h => h) (Or.inl ⟨by kernel_rfl, ?ya1⟩) (by assumption) ?ra1
          case ya1 => (intro wq hSw; (try dsimp only at hSw); go_simp; (try with_reducible rfl))
          (try simp only [Act.put, List.getElem_toArray, List.getElem_cons_succ, List.getElem_cons_zero, List.setIfInBounds_toArray, List.set_cons_zero, List.set_cons_succ])
          refine wpAnyH_take (i := 2) (v := ?va2) rfl (by kernel_rfl) (by kernel_rfl) (by kernel_rfl) (fun _ _ _ h => h) (Or.inl ⟨by kernel_rfl, ?ya2⟩) (by assumption) ?ra2
          case ya2 => (intro wq hSw; (try dsimp only at hSw); go_simp; (try with_reducible rfl))
          (try simp only [Act.put, List.getElem_toArray, List.getElem_cons_succ, List.getElem_cons_zero, List.setIfInBounds_toArray, List.set_cons_zero, List.set_cons_succ])
          refine wpAnyH_take (i := 3) (v := ?va3) rfl (by kernel_rfl) (by kernel_rfl) (by kernel_rfl) (fun _ _ _ h => h) (Or.inl ⟨by kernel_rfl, ?ya3⟩) (by assumption) ?ra3
          case ya3 => (intro wq hSw; (try dsimp only at hSw); go_simp; (try with_reducible rfl))
          (try simp only [Act.put, List.getElem_toArray, List.getElem_cons_succ, List.getElem_cons_zero, List.setIfInBounds_toArray, List.set_cons_zero, List.set_cons_succ])
          refine wpAnyH_take (i := 4) (v := ?va4) rfl (by kernel_rfl) (by kernel_rfl) (by kernel_rfl) (fun _ _ _ h => h) (Or.inl ⟨by kernel_rfl, ?ya4⟩) (by assumption) ?ra4
          case ya4 => (intro wq hSw; (try dsimp only at hSw); go_simp; (try with_reducible rfl))
          (try simp only [Act.put, List.getElem_toArray, List.getElem_cons_succ, List.getElem_cons_zero, List.setIfInBounds_toArray, List.set_cons_zero, List.set_cons_succ])
          refine wpAnyH_take (i := 5) (v := ?va5) rfl (by kernel_rfl) (by kernel_rfl) (by kernel_rfl) (fun _ _ _ h => h) (Or.inl ⟨by kernel_rfl, ?ya5⟩) (by assumption) ?ra5
          case ya5 => (intro wq hSw; (try dsimp only at hSw); go_simp; (try with_reducible rfl))
          (try simp only [Act.put, List.getElem_toArray, List.getElem_cons_succ, List.getElem_cons_zero, List.setIfInBounds_toArray, List.set_cons_zero, List.set_cons_succ])
          refine wpAnyH_take (i := 6) (v := ?va6) rfl (by kernel_rfl) (by kernel_rfl) (by kernel_rfl) (fun _ _ _ h => h) (Or.inl ⟨by kernel_rfl, ?ya6⟩) (by assumption) ?ra6
          case ya6 => (intro wq hSw; (try dsimp only at hSw); go_simp; (try with_reducible rfl))
          (try simp only [Act.put, List.getElem_toArray, List.getElem_cons_succ, List.getElem_cons_zero, List.setIfInBounds_toArray, List.set_cons_zero, List.set_cons_succ])
          refine wpAnyH_take (i := 7) (v := ?va7) rfl (by kernel_rfl) (by kernel_rfl) (by kernel_rfl) (fun _ _ _ h => h) (Or.inl ⟨by kernel_rfl, ?ya7⟩) (by assumption) ?ra7
          case ya7 => (intro wq hSw; (try dsimp only at hSw); go_simp; (try with_reducible rfl))
          (try simp only [Act.put, List.getElem_toArray, List.getElem_cons_succ, List.getElem_cons_zero, List.setIfInBounds_toArray, List.set_cons_zero, List.set_cons_succ])
          refine wpAnyH_take (i := 8) (v := ?va8) rfl (by kernel_rfl) (by kernel_rfl) (by kernel_rfl) (fun _ _ _ h => h) (Or.inl ⟨by kernel_rfl, ?ya8⟩) (by assumption) ?ra8
          case ya8 => (intro wq hSw; (try dsimp only at hSw); go_simp; (try with_reducible rfl))
          (try simp only [Act.put, List.getElem_toArray, List.getElem_cons_succ, List.getElem_cons_zero, List.setIfInBounds_toArray, List.set_cons_zero, List.set_cons_succ])
          refine wpAnyH_take (i := 9) (v := ?va9) rfl (by kernel_rfl) (by kernel_rfl) (by kernel_rfl) (fun _ _ _ h => h) (Or.inl ⟨by kernel_rfl, ?ya9⟩) (by assumption) ?ra9
          case ya9 => (intro wq hSw; (try dsimp only at hSw); go_simp; (try with_reducible rfl))
          (try simp only [Act.put, List.getElem_toArray, List.getElem_cons_succ, List.getElem_cons_zero, List.setIfInBounds_toArray, List.set_cons_zero, List.set_cons_succ])
          refine wpAnyH_take (i := 10) (v := ?va10) rfl (by kernel_rfl) (by kernel_rfl) (by kernel_rfl) (fun _ _ _ h => h) (Or.inl ⟨by kernel_rfl, ?ya10⟩) (by assumption) ?ra10
          case ya10 => (intro wq hSw; (try dsimp only at hSw); go_simp; (try with_reducible rfl))
          (try simp only [Act.put, List.getElem_toArray, List.getElem_cons_succ, List.getElem_cons_zero, List.setIfInBounds_toArray, List.set_cons_zero, List.set_cons_succ])
          refine wpAnyH_take (i := 11) (v := ?va11) rfl (by kernel_rfl) (by kernel_rfl) (by kernel_rfl) (fun _ _ _ h => h) (Or.inl ⟨by kernel_rfl, ?ya11⟩) (by assumption) ?ra11
          case ya11 => (intro wq hSw; (try dsimp only at hSw); go_simp; (try with_reducible rfl))
          (try simp only [Act.put, List.getElem_toArray, List.getElem_cons_succ, List.getElem_cons_zero, List.setIfInBounds_toArray, List.set_cons_zero, List.set_cons_succ])
          refine wpAnyH_take (i := 12) (v := ?va12) rfl (by kernel_rfl) (by kernel_rfl) (by kernel_rfl) (fun _ _ _ h => h) (Or.inl ⟨by kernel_rfl, ?ya12⟩) (by assumption) ?ra12
          case ya12 => (intro wq hSw; (try dsimp only at hSw); go_simp; (try with_reducible rfl))
          (try simp only [Act.put, List.getElem_toArray, List.getElem_cons_succ, List.getElem_cons_zero, List.setIfInBounds_toArray, List.set_cons_zero, List.set_cons_succ])
          refine wpAnyH_take (i := 13) (v := ?va13) rfl (by kernel_rfl) (by kernel_rfl) (by kernel_rfl) (fun _ _ _ h => h) (Or.inl ⟨by kernel_rfl, ?ya13⟩) (by assumption) ?ra13
          case ya13 => (intro wq hSw; (try dsimp only at hSw); go_simp; (try with_reducible rfl))
          (try simp only [Act.put, List.getElem_toArray, List.getElem_cons_succ, List.getElem_cons_zero, List.setIfInBounds_toArray, List.set_cons_zero, List.set_cons_succ])
          refine wpAnyH_done (by kernel_rfl) ?_ _
          refine NoPanic.normal ?_
          clear hHeld
          go_upto_region 6 with fail
          have hDw : Drew wr ((wr.drewN m4).drew).drew := ⟨m4 + 1 + 1, rfl⟩
          refine wp_region_noPanic ?_
          refine wp_region_held_drew (S := fun wx => wx.cell? ⟨lb, lo + 4, none⟩ = some (.slice (some ⟨pg, 0, none⟩) np pc) ∧ wx.cell? ⟨fb, 0, none⟩ = some (.float .f64 y)) (by kernel_rfl) (by exact ⟨h4, hfc⟩) (fun hHeld => ?_)
          refine wpAnyH_take (i := 0) (v := ?vc0) rfl (by kernel_rfl) (by kernel_rfl) (by kernel_rfl) (fun _ _ _ h => h) (Or.inl ⟨by kernel_rfl, ?yc0⟩) (by assumption) ?rc0
          case yc0 => (intro wq hSw; (try dsimp only at hSw); go_simp; (try with_reducible rfl))
          (try simp only [Act.put, List.getElem_toArray, List.getElem_cons_zero, List.setIfInBounds_toArray, List.set_cons_zero, List.set_cons_succ])
          refine wpAnyH_take (i := 1) (v := ?vc1) rfl (by kernel_rfl) (by kernel_rfl) (by kernel_rfl) (fun _ _ _ h => h) (Or.inl ⟨by kernel_rfl, ?yc1⟩) (by assumption) ?rc1
          case yc1 => (intro wq hSw; (try dsimp only at hSw); go_simp; (try with_reducible rfl))
          (try simp only [Act.put, List.getElem_toArray, List.getElem_cons_succ, List.getElem_cons_zero, List.setIfInBounds_toArray, List.set_cons_zero, List.set_cons_succ])
          refine wpAnyH_take (i := 2) (v := ?vc2) rfl (by kernel_rfl) (by kernel_rfl) (by kernel_rfl) (fun _ _ _ h => h) (Or.inl ⟨by kernel_rfl, ?yc2⟩) (by assumption) ?rc2
          case yc2 => (intro wq hSw; (try dsimp only at hSw); go_simp; (try with_reducible rfl))
          (try simp only [Act.put, List.getElem_toArray, List.getElem_cons_succ, List.getElem_cons_zero, List.setIfInBounds_toArray, List.set_cons_zero, List.set_cons_succ])
          refine wpAnyH_take (i := 3) (v := ?vc3) rfl (by kernel_rfl) (by kernel_rfl) (by kernel_rfl) (fun _ _ _ h => h) (Or.inl ⟨by kernel_rfl, ?yc3⟩) (by assumption) ?rc3
          case yc3 => (intro wq hSw; (try dsimp only at hSw); go_simp; (try with_reducible rfl))
          (try simp only [Act.put, List.getElem_toArray, List.getElem_cons_succ, List.getElem_cons_zero, List.setIfInBounds_toArray, List.set_cons_zero, List.set_cons_succ])
          refine wpAnyH_take (i := 4) (v := ?vc4) rfl (by kernel_rfl) (by kernel_rfl) (by kernel_rfl) (fun _ _ _ h => h) (Or.inl ⟨by kernel_rfl, ?yc4⟩) (by assumption) ?rc4
          case yc4 => (intro wq hSw; (try dsimp only at hSw); go_simp; (try with_reducible rfl))
          (try simp only [Act.put, List.getElem_toArray, List.getElem_cons_succ, List.getElem_cons_zero, List.setIfInBounds_toArray, List.set_cons_zero, List.set_cons_succ])
          refine wpAnyH_take (i := 5) (v := ?vc5) rfl (by kernel_rfl) (by kernel_rfl) (by kernel_rfl) (fun _ _ _ h => h) (Or.inl ⟨by kernel_rfl, ?yc5⟩) (by assumption) ?rc5
          case yc5 => (intro wq hSw; (try dsimp only at hSw); go_simp; (try with_reducible rfl))
          (try simp only [Act.put, List.getElem_toArray, List.getElem_cons_succ, List.getElem_cons_zero, List.setIfInBounds_toArray, List.set_cons_zero, List.set_cons_succ])
          refine wpAnyH_take (i := 6) (v := ?vc6) rfl (by kernel_rfl) (by kernel_rfl) (by kernel_rfl) (fun _ _ _ h => h) (Or.inl ⟨by kernel_rfl, ?yc6⟩) (by assumption) ?rc6
          case yc6 => (intro wq hSw; (try dsimp only at hSw); go_simp; (try with_reducible rfl))
          (try simp only [Act.put, List.getElem_toArray, List.getElem_cons_succ, List.getElem_cons_zero, List.setIfInBounds_toArray, List.set_cons_zero, List.set_cons_succ])
          refine wpAnyH_ready (rs := [7]) (by kernel_rfl) (by simp) ?_
          refine AllReadyH.cons rfl (fun K hK => ?_) AllReadyH.nil
          go_simp
          refine (HGR.out _ hDw).mono ?_
          rintro e w8 ⟨rfl, w7, hb7, hcs⟩; have hS8 := HKEEP.out w7 w8 hb7 hcs
          (try dsimp only)
          refine hK.out _ _ (by exact hS8) (fun hHeld => ?_)
          clear hK K
          (try simp only [Act.put, List.getElem_toArray, List.getElem_cons_succ, List.getElem_cons_zero, List.setIfInBounds_toArray, List.set_cons_zero, List.set_cons_succ])
          refine wpAnyH_ready (rs := [8]) (by kernel_rfl) (by simp) ?_
          refine AllReadyH.cons rfl (fun K hK => ?_) AllReadyH.nil
          go_simp
          refine hK.out _ _ (by trivial) (fun hHeld => ?_)
          clear hK K
          (try simp only [Act.put, List.getElem_toArray, List.getElem_cons_succ, List.getElem_cons_zero, List.setIfInBounds_toArray, List.set_cons_zero, List.set_cons_succ])
          refine wpAnyH_done (by kernel_rfl) ?_ _
          refine NoPanic.normal ?_
          clear hHeld hS8
          go_wp2_with fail
          show R (.returned (.int .i64 (growE [qw] 0))) _
          rw [HRR.out, HA.out]
          rw [if_pos ⟨trivial, hk2⟩] at HST
          rcases hcs with ⟨hE, rfl⟩ | ⟨hE, rfl⟩
          · rw [if_pos hE] at HST
            obtain ⟨h1, h2⟩ := HSET.out w7 hb7 (growZ qw y)
            rw [HST.out]
            exact ⟨by rw [hE], (Turn.of_below (HB.out.trans (hb7.mono HB.out.size))).trans h2, fun _ => ⟨_, h1, HERA.out _⟩⟩
          · rw [if_neg hE] at HST
            rw [HST.out]
            exact ⟨rfl, turn_false (HB.out.trans (hb7.mono HB.out.size)), fun h => absurd h hE⟩
        · have hk3 : ¬ (2 : Int) ≤ (np : Int) := by omega
          rw [if_neg (by omega)] at HST
          go_upto_region 4 with fail
          go_wp2_with fail
          refine HC.out.mono ?_
          rintro e w4 ⟨rfl, m4, rfl⟩
          go_upto_region 5 with fail
          refine wp_region_noPanic ?_
          refine wp_region_held_drew (S := fun wx => wx.cell? ⟨lb, lo, none⟩ = some (.int .i64 pk) ∧ wx.cell? ⟨lb, lo + 4, none⟩ = some (.slice (some ⟨pg, 0, none⟩) np pc) ∧ wx.cell? ⟨kb, 0, none⟩ = some (.int .i64 pk)) (by kernel_rfl) (by exact ⟨h0, h4, hkc⟩) (fun hHeld => ?_)
          refine wpAnyH_take (i := 0) (v := ?vb0) rfl (by kernel_rfl) (by kernel_rfl) (by kernel_rfl) (fun _ _ _ h => h) (Or.inl ⟨by kernel_rfl, ?yb0⟩) (by assumption) ?rb0
          case yb0 => (intro wq hSw; (try dsimp only at hSw); go_simp; (try with_reducible rfl))
          (try simp only [Act.put, List.getElem_toArray, List.getElem_cons_zero, List.setIfInBounds_toArray, List.set_cons_zero, List.set_cons_succ])
          refine wpAnyH_take (i := 1) (v := ?vb1) rfl (by kernel_rfl) (by kernel_rfl) (by kernel_rfl) (fun _ _ _ h => h) (Or.inl ⟨by kernel_rfl, ?yb1⟩) (by assumption) ?rb1
          case yb1 => (intro wq hSw; (try dsimp only at hSw); go_simp; (try with_reducible rfl))
          (try simp only [Act.put, List.getElem_toArray, List.getElem_cons_succ, List.getElem_cons_zero, List.setIfInBounds_toArray, List.set_cons_zero, List.set_cons_succ])
          refine wpAnyH_take (i := 2) (v := ?vb2) rfl (by kernel_rfl) (by kernel_rfl) (by kernel_rfl) (fun _ _ _ h => h) (Or.inl ⟨by kernel_rfl, ?yb2⟩) (by assumption) ?rb2
          case yb2 => (intro wq hSw; (try dsimp only at hSw); go_simp; (try with_reducible rfl))
          (try simp only [Act.put, List.getElem_toArray, List.getElem_cons_succ, List.getElem_cons_zero, List.setIfInBounds_toArray, List.set_cons_zero, List.set_cons_succ])
          refine wpAnyH_take (i := 3) (v := ?vb3) rfl (by kernel_rfl) (by kernel_rfl) (by kernel_rfl) (fun _ _ _ h => h) (Or.inl ⟨by kernel_rfl, ?yb3⟩) (by assumption) ?rb3
          case yb3 => (intro wq hSw; (try dsimp only at hSw); go_simp; (try with_reducible rfl))
          (try simp only [Act.put, List.getElem_toArray, List.getElem_cons_succ, List.getElem_cons_zero, List.setIfInBounds_toArray, List.set_cons_zero, List.set_cons_succ])
          refine wpAnyH_take (i := 4) (v := ?vb4) rfl (by kernel_rfl) (by kernel_rfl) (by kernel_rfl) (fun _ _ _ h => h) (Or.inl ⟨by kernel_rfl, ?yb4⟩) (by assumption) ?rb4
          case yb4 => (intro wq hSw; (try dsimp only at hSw); go_simp; (try with_reducible rfl))
          (try simp only [Act.put, List.getElem_toArray, List.getElem_cons_succ, List.getElem_cons_zero, List.setIfInBounds_toArray, List.set_cons_zero, List.set_cons_succ])
          refine wpAnyH_take (i := 5) (v := ?vb5) rfl (by kernel_rfl) (by kernel_rfl) (by kernel_rfl) (fun _ _ _ h => h) (Or.inl ⟨by kernel_rfl, ?yb5⟩) (by assumption) ?rb5
          case yb5 => (intro wq hSw; (try dsimp only at hSw); go_simp; (try with_reducible rfl))
          (try simp only [Act.put, List.getElem_toArray, List.getElem_cons_succ, List.getElem_cons_zero, List.setIfInBounds_toArray, List.set_cons_zero, List.set_cons_succ])
          refine wpAnyH_take (i := 6) (v := ?vb6) rfl (by kernel_rfl) (by kernel_rfl) (by kernel_rfl) (fun _ _ _ h => h) (Or.inl ⟨by kernel_rfl, ?yb6⟩) (by assumption) ?rb6
          case yb6 => (intro wq hSw; (try dsimp only at hSw); go_simp; (try with_reducible rfl))
          (try simp only [Act.put, List.getElem_toArray, List.getElem_cons_succ, List.getElem_cons_zero, List.setIfInBounds_toArray, List.set_cons_zero, List.set_cons_succ])
          refine wpAnyH_take (i := 7) (v := ?vb7) rfl (by kernel_rfl) (by kernel_rfl) (by kernel_rfl) (fun _ _ _ h => h) (Or.inl ⟨by kernel_rfl, ?yb7⟩) (by assumption) ?rb7
          case yb7 => (intro wq hSw; (try dsimp only at hSw); go_simp; (try with_reducible rfl))
          (try simp only [Act.put, List.getElem_toArray, List.getElem_cons_succ, List.getElem_cons_zero, List.setIfInBounds_toArray, List.set_cons_zero, List.set_cons_succ])
          refine wpAnyH_take (i := 8) (v := ?vb8) rfl (by kernel_rfl) (by kernel_rfl) (by kernel_rfl) (fun _ _ _ h => h) (Or.inl ⟨by kernel_rfl, ?yb8⟩) (by assumption) ?rb8
          case yb8 => (intro wq hSw; (try dsimp only at hSw); go_simp; (try with_reducible rfl))
          (try simp only [Act.put, List.getElem_toArray, List.getElem_cons_succ, List.getElem_cons_zero, List.setIfInBounds_toArray, List.set_cons_zero, List.set_cons_succ])
          refine wpAnyH_take (i := 9) (v := ?vb9) rfl (by kernel_rfl) (by kernel_rfl) (by kernel_rfl) (fun _ _ _ h => h) (Or.inl ⟨by kernel_rfl, ?yb9⟩) (by assumption) ?rb9
          case yb9 => (intro wq hSw; (try dsimp only at hSw); go_simp; (try with_reducible rfl))
          (try simp only [Act.put, List.getElem_toArray, List.getElem_cons_succ, List.getElem_cons_zero, List.setIfInBounds_toArray, List.set_cons_zero, List.set_cons_succ])
          refine wpAnyH_take (i := 10) (v := ?vb10) rfl (by kernel_rfl) (by kernel_rfl) (by kernel_rfl) (fun _ _ _ h => h) (Or.inl ⟨by kernel_rfl, ?yb10⟩) (by assumption) ?rb10
          case yb10 => (intro wq hSw; (try dsimp only at hSw); go_simp; (try with_reducible rfl))
          (try simp only [Act.put, List.getElem_toArray, List.getElem_cons_succ, List.getElem_cons_zero, List.setIfInBounds_toArray, List.set_cons_zero, List.set_cons_succ])
          refine wpAnyH_take (i := 11) (v := ?vb11) rfl (by kernel_rfl) (by kernel_rfl) (by kernel_rfl) (fun _ _ _ h => h) (Or.inl ⟨by kernel_rfl, ?yb11⟩) (by assumption) ?rb11
          case yb11 => (intro wq hSw; (try dsimp only at hSw); go_simp; (try with_reducible rfl))
          (try simp only [Act.put, List.getElem_toArray, List.getElem_cons_succ, List.getElem_cons_zero, List.setIfInBounds_toArray, List.set_cons_zero, List.set_cons_succ])
          refine wpAnyH_take (i := 12) (v := ?vb12) rfl (by kernel_rfl) (by kernel_rfl) (by kernel_rfl) (fun _ _ _ h => h) (Or.inl ⟨by kernel_rfl, ?yb12⟩) (by assumption) ?rb12
          case yb12 => (intro wq hSw; (try dsimp only at hSw); go_simp; (try with_reducible rfl))
          (try simp only [Act.put, List.getElem_toArray, List.getElem_cons_succ, List.getElem_cons_zero, List.setIfInBounds_toArray, List.set_cons_zero, List.set_cons_succ])
          refine wpAnyH_take (i := 13) (v := ?vb13) rfl (by kernel_rfl) (by kernel_rfl) (by kernel_rfl) (fun _ _ _ h => h) (Or.inl ⟨by kernel_rfl, ?yb13⟩) (by assumption) ?rb13
          case yb13 => (intro wq hSw; (try dsimp only at hSw); go_simp; (try with_reducible rfl))
          (try simp only [Act.put, List.getElem_toArray, List.getElem_cons_succ, List.getElem_cons_zero, List.setIfInBounds_toArray, List.set_cons_zero, List.set_cons_succ])
          refine wpAnyH_done (by kernel_rfl) ?_ _
          refine NoPanic.normal ?_
          clear hHeld
          have HB4 : Hid (Below w.heap.size w (wr.drewN m4).drew) := (below_drewN HB.out m4).drew
          go_wp2_with fail
          go_roundw
          case rel => exact ⟨k, by omega, by go_num, HB4.out, HA.out.trans HST.out⟩
          case measure => simp [intOf]
      · rw [if_neg (fun h => hk1 h.1)] at HST
        have hkf : (pk == kind) = false := by simpa using hk1
        go_upto_region 4 with fail
        go_wp2_with fail
        refine HC.out.mono ?_
        rintro e w4 ⟨rfl, m4, rfl⟩
        go_upto_region 5 with fail
        refine wp_region_noPanic ?_
        refine wp_region_held_drew (S := fun wx => wx.cell? ⟨lb, lo, none⟩ = some (.int .i64 pk) ∧ wx.cell? ⟨lb, lo + 4, none⟩ = some (.slice (some ⟨pg, 0, none⟩) np pc) ∧ wx.cell? ⟨kb, 0, none⟩ = some (.int .i64 kind)) (by kernel_rfl) (by exact ⟨h0, h4, hkc⟩) (fun hHeld => ?_)
        refine wpAnyH_take (i := 0) (v := ?vd0) rfl (by kernel_rfl) (by kernel_rfl) (by kernel_rfl) (fun _ _ _ h => h) (Or.inl ⟨by kernel_rfl, ?yd0⟩) (by assumption) ?rd0
        case yd0 => (intro wq hSw; (try dsimp only at hSw); go_simp; (try with_reducible rfl))
        (try simp only [Act.put, List.getElem_toArray, List.getElem_cons_zero, List.setIfInBounds_toArray, List.set_cons_zero, List.set_cons_succ])
        refine wpAnyH_take (i := 1) (v := ?vd1) rfl (by kernel_rfl) (by kernel_rfl) (by kernel_rfl) (fun _ _ _ h => h) (Or.inl ⟨by kernel_rfl, ?yd1⟩) (by assumption) ?rd1
        case yd1 => (intro wq hSw; (try dsimp only at hSw); go_simp; (try with_reducible rfl))
        (try simp only [Act.put, List.getElem_toArray, List.getElem_cons_succ, List.getElem_cons_zero, List.setIfInBounds_toArray, List.set_cons_zero, List.set_cons_succ])
        refine wpAnyH_take (i := 2) (v := ?vd2) rfl (by kernel_rfl) (by kernel_rfl) (by kernel_rfl) (fun _ _ _ h => h) (Or.inl ⟨by kernel_rfl, ?yd2⟩) (by assumption) ?rd2
        case yd2 => (intro wq hSw; (try dsimp only at hSw); go_simp; (try with_reducible rfl))
        (try simp only [Act.put, List.getElem_toArray, List.getElem_cons_succ, List.getElem_cons_zero, List.setIfInBounds_toArray, List.set_cons_zero, List.set_cons_succ])
        refine wpAnyH_take (i := 3) (v := ?vd3) rfl (by kernel_rfl) (by kernel_rfl) (by kernel_rfl) (fun _ _ _ h => h) (Or.inl ⟨by kernel_rfl, ?yd3⟩) (by assumption) ?rd3
        case yd3 => (intro wq hSw; (try dsimp only at hSw); go_simp; (try with_reducible rfl))
        (try simp only [Act.put, List.getElem_toArray, List.getElem_cons_succ, List.getElem_cons_zero, List.setIfInBounds_toArray, List.set_cons_zero, List.set_cons_succ])
        refine wpAnyH_take (i := 4) (v := ?vd4) rfl (by kernel_rfl) (by kernel_rfl) (by kernel_rfl) (fun _ _ _ h => h) (Or.inl ⟨by kernel_rfl, ?yd4⟩) (by assumption) ?rd4
        case yd4 => (intro wq hSw; (try dsimp only at hSw); go_simp; (try with_reducible rfl))
        (try simp only [Act.put, List.getElem_toArray, List.getElem_cons_succ, List.getElem_cons_zero, List.setIfInBounds_toArray, List.set_cons_zero, List.set_cons_succ])
        refine wpAnyH_take (i := 5) (v := ?vd5) rfl (by kernel_rfl) (by kernel_rfl) (by kernel_rfl) (fun _ _ _ h => h) (Or.inl ⟨by kernel_rfl, ?yd5⟩) (by assumption) ?rd5
        case yd5 => (intro wq hSw; (try dsimp only at hSw); go_simp; (try with_reducible rfl))
        (try simp only [Act.put, List.getElem_toArray, List.getElem_cons_succ, List.getElem_cons_zero, List.setIfInBounds_toArray, List.set_cons_zero, List.set_cons_succ])
        refine wpAnyH_take (i := 6) (v := ?vd6) rfl (by kernel_rfl) (by kernel_rfl) (by kernel_rfl) (fun _ _ _ h => h) (Or.inl ⟨by kernel_rfl, ?yd6⟩) (by assumption) ?rd6
        case yd6 => (intro wq hSw; (try dsimp only at hSw); go_simp; (try with_reducible rfl))
        (try simp only [Act.put, List.getElem_toArray, List.getElem_cons_succ, List.getElem_cons_zero, List.setIfInBounds_toArray, List.set_cons_zero, List.set_cons_succ])
        refine wpAnyH_take (i := 7) (v := undef) rfl (by kernel_rfl) (by kernel_rfl) (by kernel_rfl) (fun _ _ _ h => h) (Or.inr ⟨by kernel_rfl, rfl⟩) (by assumption) ?_
        (try simp only [Act.put, List.getElem_toArray, List.getElem_cons_succ, List.getElem_cons_zero, List.setIfInBounds_toArray, List.set_cons_zero, List.set_cons_succ])
        refine wpAnyH_take (i := 8) (v := undef) rfl (by kernel_rfl) (by kernel_rfl) (by kernel_rfl) (fun _ _ _ h => h) (Or.inr ⟨by kernel_rfl, rfl⟩) (by assumption) ?_
        (try simp only [Act.put, List.getElem_toArray, List.getElem_cons_succ, List.getElem_cons_zero, List.setIfInBounds_toArray, List.set_cons_zero, List.set_cons_succ])
        refine wpAnyH_take (i := 9) (v := undef) rfl (by kernel_rfl) (by kernel_rfl) (by kernel_rfl) (fun _ _ _ h => h) (Or.inr ⟨by kernel_rfl, rfl⟩) (by assumption) ?_
        (try simp only [Act.put, List.getElem_toArray, List.getElem_cons_succ, List.getElem_cons_zero, List.setIfInBounds_toArray, List.set_cons_zero, List.set_cons_succ])
        refine wpAnyH_take (i := 10) (v := undef) rfl (by kernel_rfl) (by kernel_rfl) (by kernel_rfl) (fun _ _ _ h => h) (Or.inr ⟨by kernel_rfl, rfl⟩) (by assumption) ?_
        (try simp only [Act.put, List.getElem_toArray, List.getElem_cons_succ, List.getElem_cons_zero, List.setIfInBounds_toArray, List.set_cons_zero, List.set_cons_succ])
        refine wpAnyH_take (i := 11) (v := undef) rfl (by kernel_rfl) (by kernel_rfl) (by kernel_rfl) (fun _ _ _ h => h) (Or.inr ⟨by kernel_rfl, rfl⟩) (by assumption) ?_
        (try simp only [Act.put, List.getElem_toArray, List.getElem_cons_succ, List.getElem_cons_zero, List.setIfInBounds_toArray, List.set_cons_zero, List.set_cons_succ])
        refine wpAnyH_take (i := 12) (v := undef) rfl (by kernel_rfl) (by kernel_rfl) (by kernel_rfl) (fun _ _ _ h => h) (Or.inr ⟨by kernel_rfl, rfl⟩) (by assumption) ?_
        (try simp only [Act.put, List.getElem_toArray, List.getElem_cons_succ, List.getElem_cons_zero, List.setIfInBounds_toArray, List.set_cons_zero, List.set_cons_succ])
        refine wpAnyH_take (i := 13) (v := ?vd13) rfl (by kernel_rfl) (by kernel_rfl) (by kernel_rfl) (fun _ _ _ h => h) (Or.inl ⟨by kernel_rfl, ?yd13⟩) (by assumption) ?rd13
        case yd13 => (intro wq hSw; (try dsimp only at hSw); go_simp; (try with_reducible rfl))
        (try simp only [Act.put, List.getElem_toArray, List.getElem_cons_succ, List.getElem_cons_zero, List.setIfInBounds_toArray, List.set_cons_zero, List.set_cons_succ])
        refine wpAnyH_done (by kernel_rfl) ?_ _
        refine NoPanic.normal ?_
        clear hHeld
        have HB4 : Hid (Below w.heap.size w (wr.drewN m4).drew) := (below_drewN HB.out m4).drew
        go_wp2_with fail
        go_roundw
        case rel => exact ⟨k, by omega, by go_num, HB4.out, HA.out.trans HST.out⟩
        case measure => simp [intOf]
end Go.Proofs.Ytbbmfpdlkogkfaa.Co
end
section
namespace Go.Proofs.Ytbbmfpdlkogkfaa.Co
open Go.RowKit Go.Shelf
def growI (x : Con) (c kind : Int) (y : Nat) : Con × Int := if kind ≠ 1 ∧ kind ≠ 2 then (zeroT, 1) else chgI x c (growF kind y)
set_option maxHeartbeats 2000000 in
theorem growc_c (x : Con) (sv : Value) (c k : Int) (y : Nat) (w : World) (hK : KV w (fun b => b < w.heap.size) x.ks sv) (hw : x.a.wide) (hd : ht x ≤ 1000000) (hwd : wd x ≤ 100000) :
    Calls Try.prog 43 #[conV x.a sv, .int .i64 c, .int .i64 k, .float .f64 y] w fun e w' => TellR w.heap.size (growI x c k y) e w' ∧ Below w.heap.size w w' := by
  obtain ⟨p, cap, rfl, hl⟩ := hK.slice
  obtain ⟨n, hn⟩ : ∃ n, n = x.ks.length := ⟨_, rfl⟩
  rw [← hn] at hK ⊢
  obtain ⟨R, hR⟩ : ∃ R, R = fun (e : Ending) (w' : World) => TellR w.heap.size (growI x c k y) e w' ∧ Below w.heap.size w w' := ⟨_, rfl⟩
  have hRe : ∀ e w', R e w' ↔ (TellR w.heap.size (growI x c k y) e w' ∧ Below w.heap.size w w') := by rw [hR]; exact fun _ _ => Iff.rfl
  rw [← hR]
  have HR := Lib.hid hRe
  obtain ⟨wB, hwB⟩ : ∃ wB, wB = (((w.alloc (.cells #[.int .i64 x.a.k, .int .i64 x.a.w, .int .i64 x.a.c, .int .i64 x.a.s, .slice p n cap] 24)).alloc (.cells #[.int .i64 k] 3)).alloc (.cells #[.float .f64 y] 48)).alloc (.cells #[.int .i64 0, .int .i64 0, .int .i64 0, .int .i64 0, .slice none 0 0] 24) := ⟨_, rfl⟩
  have hb0 : Below w.heap.size w wB := by rw [hwB]; exact ((((Below.refl _ _).alloc (Nat.le_refl _) _).alloc (by simp) _).alloc (by simp; omega) _).alloc (by simp; omega) _
  have hkb : Blk wB (w.heap.size + 1) 3 #[.int .i64 k] := by
    rw [hwB]; have := ((Blk.new (w.alloc (.cells #[.int .i64 x.a.k, .int .i64 x.a.w, .int .i64 x.a.c, .int .i64 x.a.s, .slice p n cap] 24)) 3 #[.int .i64 k]).alloc (.cells #[.float .f64 y] 48)).alloc (.cells #[.int .i64 0, .int .i64 0, .int .i64 0, .int .i64 0, .slice none 0 0] 24); rwa [World.size_alloc] at this
  have hfb : Blk wB (w.heap.size + 1 + 1) 48 #[.float .f64 y] := by
    rw [hwB]; have := (Blk.new ((w.alloc (.cells #[.int .i64 x.a.k, .int .i64 x.a.w, .int .i64 x.a.c, .int .i64 x.a.s, .slice p n cap] 24)).alloc (.cells #[.int .i64 k] 3)) 48 #[.float .f64 y]).alloc (.cells #[.int .i64 0, .int .i64 0, .int .i64 0, .int .i64 0, .slice none 0 0] 24); rwa [World.size_alloc, World.size_alloc] at this
  have hq2 : Blk wB (w.heap.size + 1 + 1 + 1) 24 #[.int .i64 0, .int .i64 0, .int .i64 0, .int .i64 0, .slice none 0 0] := by
    rw [hwB]; have := Blk.new (((w.alloc (.cells #[.int .i64 x.a.k, .int .i64 x.a.w, .int .i64 x.a.c, .int .i64 x.a.s, .slice p n cap] 24)).alloc (.cells #[.int .i64 k] 3)).alloc (.cells #[.float .f64 y] 48)) 24 #[.int .i64 0, .int .i64 0, .int .i64 0, .int .i64 0, .slice none 0 0]; rwa [World.size_alloc, World.size_alloc, World.size_alloc] at this
  have hsz : wB.heap.size = w.heap.size + 4 := by rw [hwB]; simp
  have HCH := Lib.hid (change_c x (.slice p n cap) c 80 #[.pointer (some ⟨w.heap.size + 1, 0, none⟩), .pointer (some ⟨w.heap.size + 1 + 1, 0, none⟩)] (fun W => Blk W (w.heap.size + 1) 3 #[.int .i64 k] ∧ Blk W (w.heap.size + 1 + 1) 48 #[.float .f64 y]) (growF k y) wB
    (hK.same (Z' := fun b => b < wB.heap.size) (fun b h => Nat.lt_of_lt_of_le h hb0.size) hb0.size fun b _ hl => hb0.block b hl) hw hd hwd enters_grow (how_grow (w.heap.size + 1) (w.heap.size + 1 + 1) k y) (fun W h => ⟨hkb.next h, hfb.next h⟩))
  have HB := Lib.hid hb0
  have HQ2 := Lib.hid hq2
  have HWB := Lib.hid hwB
  have HSZ := Lib.hid hsz
  clear hn hR hRe hK hw hd hwd hl hb0 hwB hkb hfb hsz
  have hmf : ∀ (fn : Fn) (first cap : Array Value) (w : World), (Instr.makeFunc fn first cap).run Try.prog w = .ok (.func fn first cap) w := fun _ _ _ _ => rfl
  by_cases hs : k ≠ 1 ∧ k ≠ 2
  · have hI : growI x c k y = (zeroT, 1) := by unfold growI; rw [if_pos hs]
    have HI := Lib.hid hI
    obtain ⟨hk1, hk2⟩ := hs
    have hb1 : (k != 1) = true := by simpa using hk1
    have hb2 : (k != 2) = true := by simpa using hk2
    clear hI HCH hq2
    go_enter Try.func43, Try.ntmps43
    go_wp2_with fail
    have hq2 := HQ2.out
    rw [← HWB.out]
    obtain ⟨⟨b3, b4, b5, b6, b7⟩, -⟩ := c5 hq2
    refine bodyPost_ret (v := .tuple #[zeroC, .int .i64 1]) (by simp [results, Try.results43, go_sem, b3, b4, b5, b6, b7]) rfl ?_
    refine (HR.out _ _).2 ⟨.inl ?_, HB.out⟩
    rw [HI.out]
    exact ⟨by simp, rfl⟩
  · have hI : growI x c k y = chgI x c (growF k y) := by unfold growI; rw [if_neg hs]
    have HI := Lib.hid hI
    have hk : k = 1 ∨ k = 2 := by omega
    clear hI hq2 hs
    rcases hk with rfl | rfl
    · go_enter Try.func43, Try.ntmps43
      go_wp2_with fail
      rw [← HWB.out]
      refine HCH.out.mono ?_
      rintro e w1 ⟨hte, hb1⟩
      have HB1 := Lib.hid (HB.out.trans (hb1.mono HB.out.size))
      have hq2 := HQ2.out.next hb1
      clear hb1
      rcases hte with ⟨hz, rfl⟩ | ⟨hz, t', ho, hnd, hge, he, rfl⟩
      · obtain ⟨z, hzz⟩ : ∃ z, z = (chgI x c (growF 1 y)).2 := ⟨_, rfl⟩
        rw [← hzz] at hz ⊢
        have HZ := Lib.hid hz
        have HZZ := Lib.hid hzz
        clear hz hzz
        have b2 := blk_st5 hq2 (.int .i64 0) (.int .i64 0) (.int .i64 0) (.int .i64 0) (.slice none 0 0)
        have hbl := below_st5 (g := w.heap.size + 1 + 1 + 1) HB1.out (by omega) (.int .i64 0) (.int .i64 0) (.int .i64 0) (.int .i64 0) (.slice none 0 0)
        have hfar := far_st5 w1 (w.heap.size + 1 + 1 + 1) (.int .i64 0) (.int .i64 0) (.int .i64 0) (.int .i64 0) (.slice none 0 0)
        obtain ⟨⟨b3, b4, b5, b6, b7⟩, -⟩ := c5 b2
        obtain ⟨w8, hw8⟩ : ∃ w8, w8 = st5 w1 (w.heap.size + 1 + 1 + 1) (.int .i64 0) (.int .i64 0) (.int .i64 0) (.int .i64 0) (.slice none 0 0) := ⟨_, rfl⟩
        rw [← hw8] at b3 b4 b5 b6 b7 hbl hfar
        have HW8 := Lib.hid hw8
        have HBL := Lib.hid hbl
        have HFAR := Lib.hid hfar
        obtain ⟨⟨r0, r1, r2, r3, r4⟩, f0, f1, f2, f3, f4⟩ := c5 hq2
        clear b2 hbl hw8 hq2 hfar
        go_wp2_with fail
        rw [show ((((w1.setCell ⟨w.heap.size + 1 + 1 + 1, 0, none⟩ (.int .i64 0)).setCell ⟨w.heap.size + 1 + 1 + 1, 1, none⟩ (.int .i64 0)).setCell ⟨w.heap.size + 1 + 1 + 1, 2, none⟩ (.int .i64 0)).setCell ⟨w.heap.size + 1 + 1 + 1, 3, none⟩ (.int .i64 0)).setCell ⟨w.heap.size + 1 + 1 + 1, 4, none⟩ (.slice none 0 0) = w8 from HW8.out.symm]
        refine bodyPost_ret (v := .tuple #[zeroC, .int .i64 z]) (by simp [results, Try.results43, go_sem, b3, b4, b5, b6, b7]) rfl ?_
        refine (HR.out _ _).2 ⟨.inl ?_, HBL.out⟩
        rw [HI.out, ← HZZ.out]
        exact ⟨HZ.out, rfl⟩
      · obtain ⟨pz, cz, hsz⟩ : ∃ pz cz, slA t' = .slice pz t'.ks.length cz := slV_slice _ _ _
        obtain ⟨nz, hnz⟩ : ∃ nz, nz = t'.ks.length := ⟨_, rfl⟩
        rw [← hnz] at hsz
        rw [hsz]
        obtain ⟨ta, hta⟩ : ∃ ta, ta = t'.a := ⟨_, rfl⟩
        rw [← hta]
        have HZ := Lib.hid hz
        have HO := Lib.hid ho
        have HND := Lib.hid hnd
        have HGE := Lib.hid hge
        have HE := Lib.hid he
        have HSL := Lib.hid hsz
        have HTA := Lib.hid hta
        clear hz ho hnd hge he hsz hnz hta
        have b2 := blk_st5 hq2 (.int .i64 ta.d.k) (.int .i64 ta.d.w) (.int .i64 ta.d.c) (.int .i64 ta.d.s) (.slice pz nz cz)
        have hbl := below_st5 (g := w.heap.size + 1 + 1 + 1) HB1.out (by omega) (.int .i64 ta.d.k) (.int .i64 ta.d.w) (.int .i64 ta.d.c) (.int .i64 ta.d.s) (.slice pz nz cz)
        have hfar := far_st5 w1 (w.heap.size + 1 + 1 + 1) (.int .i64 ta.d.k) (.int .i64 ta.d.w) (.int .i64 ta.d.c) (.int .i64 ta.d.s) (.slice pz nz cz)
        obtain ⟨⟨b3, b4, b5, b6, b7⟩, -⟩ := c5 b2
        obtain ⟨w8, hw8⟩ : ∃ w8, w8 = st5 w1 (w.heap.size + 1 + 1 + 1) (.int .i64 ta.d.k) (.int .i64 ta.d.w) (.int .i64 ta.d.c) (.int .i64 ta.d.s) (.slice pz nz cz) := ⟨_, rfl⟩
        rw [← hw8] at b3 b4 b5 b6 b7 hbl hfar
        have HW8 := Lib.hid hw8
        have HBL := Lib.hid hbl
        have HFAR := Lib.hid hfar
        obtain ⟨⟨r0, r1, r2, r3, r4⟩, f0, f1, f2, f3, f4⟩ := c5 hq2
        clear b2 hbl hw8 hq2 hfar
        go_wp2_with fail
        rw [show ((((w1.setCell ⟨w.heap.size + 1 + 1 + 1, 0, none⟩ (.int .i64 ta.d.k)).setCell ⟨w.heap.size + 1 + 1 + 1, 1, none⟩ (.int .i64 ta.d.w)).setCell ⟨w.heap.size + 1 + 1 + 1, 2, none⟩ (.int .i64 ta.d.c)).setCell ⟨w.heap.size + 1 + 1 + 1, 3, none⟩ (.int .i64 ta.d.s)).setCell ⟨w.heap.size + 1 + 1 + 1, 4, none⟩ (.slice pz nz cz) = w8 from HW8.out.symm]
        refine bodyPost_ret (v := .tuple #[.agg #[.int .i64 ta.d.k, .int .i64 ta.d.w, .int .i64 ta.d.c, .int .i64 ta.d.s, .slice pz nz cz], .int .i64 0]) (by simp [results, Try.results43, go_sem, b3, b4, b5, b6, b7]) rfl ?_
        refine (HR.out _ _).2 ⟨.inr ?_, HBL.out⟩
        rw [HI.out]
        refine ⟨HZ.out, t', HO.out.same fun b hb => HFAR.out b fun e => ?_, HND.out, fun b hb => Nat.le_trans HB.out.size (HGE.out b hb), HE.out, ?_⟩
        · have h1 := HGE.out b hb
          have h2 := HSZ.out
          omega
        · rw [HSL.out, ← HTA.out]
    · go_enter Try.func43, Try.ntmps43
      go_wp2_with fail
      rw [← HWB.out]
      refine HCH.out.mono ?_
      rintro e w1 ⟨hte, hb1⟩
      have HB1 := Lib.hid (HB.out.trans (hb1.mono HB.out.size))
      have hq2 := HQ2.out.next hb1
      clear hb1
      rcases hte with ⟨hz, rfl⟩ | ⟨hz, t', ho, hnd, hge, he, rfl⟩
      · obtain ⟨z, hzz⟩ : ∃ z, z = (chgI x c (growF 2 y)).2 := ⟨_, rfl⟩
        rw [← hzz] at hz ⊢
        have HZ := Lib.hid hz
        have HZZ := Lib.hid hzz
        clear hz hzz
        have b2 := blk_st5 hq2 (.int .i64 0) (.int .i64 0) (.int .i64 0) (.int .i64 0) (.slice none 0 0)
        have hbl := below_st5 (g := w.heap.size + 1 + 1 + 1) HB1.out (by omega) (.int .i64 0) (.int .i64 0) (.int .i64 0) (.int .i64 0) (.slice none 0 0)
        have hfar := far_st5 w1 (w.heap.size + 1 + 1 + 1) (.int .i64 0) (.int .i64 0) (.int .i64 0) (.int .i64 0) (.slice none 0 0)
        obtain ⟨⟨b3, b4, b5, b6, b7⟩, -⟩ := c5 b2
        obtain ⟨w8, hw8⟩ : ∃ w8, w8 = st5 w1 (w.heap.size + 1 + 1 + 1) (.int .i64 0) (.int .i64 0) (.int .i64 0) (.int .i64 0) (.slice none 0 0) := ⟨_, rfl⟩
        rw [← hw8] at b3 b4 b5 b6 b7 hbl hfar
        have HW8 := Lib.hid hw8
        have HBL := Lib.hid hbl
        have HFAR := Lib.hid hfar
        obtain ⟨⟨r0, r1, r2, r3, r4⟩, f0, f1, f2, f3, f4⟩ := c5 hq2
        clear b2 hbl hw8 hq2 hfar
        go_wp2_with fail
        rw [show ((((w1.setCell ⟨w.heap.size + 1 + 1 + 1, 0, none⟩ (.int .i64 0)).setCell ⟨w.heap.size + 1 + 1 + 1, 1, none⟩ (.int .i64 0)).setCell ⟨w.heap.size + 1 + 1 + 1, 2, none⟩ (.int .i64 0)).setCell ⟨w.heap.size + 1 + 1 + 1, 3, none⟩ (.int .i64 0)).setCell ⟨w.heap.size + 1 + 1 + 1, 4, none⟩ (.slice none 0 0) = w8 from HW8.out.symm]
        refine bodyPost_ret (v := .tuple #[zeroC, .int .i64 z]) (by simp [results, Try.results43, go_sem, b3, b4, b5, b6, b7]) rfl ?_
        refine (HR.out _ _).2 ⟨.inl ?_, HBL.out⟩
        rw [HI.out, ← HZZ.out]
        exact ⟨HZ.out, rfl⟩
      · obtain ⟨pz, cz, hsz⟩ : ∃ pz cz, slA t' = .slice pz t'.ks.length cz := slV_slice _ _ _
        obtain ⟨nz, hnz⟩ : ∃ nz, nz = t'.ks.length := ⟨_, rfl⟩
        rw [← hnz] at hsz
        rw [hsz]
        obtain ⟨ta, hta⟩ : ∃ ta, ta = t'.a := ⟨_, rfl⟩
        rw [← hta]
        have HZ := Lib.hid hz
        have HO := Lib.hid ho
        have HND := Lib.hid hnd
        have HGE := Lib.hid hge
        have HE := Lib.hid he
        have HSL := Lib.hid hsz
        have HTA := Lib.hid hta
        clear hz ho hnd hge he hsz hnz hta
        have b2 := blk_st5 hq2 (.int .i64 ta.d.k) (.int .i64 ta.d.w) (.int .i64 ta.d.c) (.int .i64 ta.d.s) (.slice pz nz cz)
        have hbl := below_st5 (g := w.heap.size + 1 + 1 + 1) HB1.out (by omega) (.int .i64 ta.d.k) (.int .i64 ta.d.w) (.int .i64 ta.d.c) (.int .i64 ta.d.s) (.slice pz nz cz)
        have hfar := far_st5 w1 (w.heap.size + 1 + 1 + 1) (.int .i64 ta.d.k) (.int .i64 ta.d.w) (.int .i64 ta.d.c) (.int .i64 ta.d.s) (.slice pz nz cz)
        obtain ⟨⟨b3, b4, b5, b6, b7⟩, -⟩ := c5 b2
        obtain ⟨w8, hw8⟩ : ∃ w8, w8 = st5 w1 (w.heap.size + 1 + 1 + 1) (.int .i64 ta.d.k) (.int .i64 ta.d.w) (.int .i64 ta.d.c) (.int .i64 ta.d.s) (.slice pz nz cz) := ⟨_, rfl⟩
        rw [← hw8] at b3 b4 b5 b6 b7 hbl hfar
        have HW8 := Lib.hid hw8
        have HBL := Lib.hid hbl
        have HFAR := Lib.hid hfar
        obtain ⟨⟨r0, r1, r2, r3, r4⟩, f0, f1, f2, f3, f4⟩ := c5 hq2
        clear b2 hbl hw8 hq2 hfar
        go_wp2_with fail
        rw [show ((((w1.setCell ⟨w.heap.size + 1 + 1 + 1, 0, none⟩ (.int .i64 ta.d.k)).setCell ⟨w.heap.size + 1 + 1 + 1, 1, none⟩ (.int .i64 ta.d.w)).setCell ⟨w.heap.size + 1 + 1 + 1, 2, none⟩ (.int .i64 ta.d.c)).setCell ⟨w.heap.size + 1 + 1 + 1, 3, none⟩ (.int .i64 ta.d.s)).setCell ⟨w.heap.size + 1 + 1 + 1, 4, none⟩ (.slice pz nz cz) = w8 from HW8.out.symm]
        refine bodyPost_ret (v := .tuple #[.agg #[.int .i64 ta.d.k, .int .i64 ta.d.w, .int .i64 ta.d.c, .int .i64 ta.d.s, .slice pz nz cz], .int .i64 0]) (by simp [results, Try.results43, go_sem, b3, b4, b5, b6, b7]) rfl ?_
        refine (HR.out _ _).2 ⟨.inr ?_, HBL.out⟩
        rw [HI.out]
        refine ⟨HZ.out, t', HO.out.same fun b hb => HFAR.out b fun e => ?_, HND.out, fun b hb => Nat.le_trans HB.out.size (HGE.out b hb), HE.out, ?_⟩
        · have h1 := HGE.out b hb
          have h2 := HSZ.out
          omega
        · rw [HSL.out, ← HTA.out]
end Go.Proofs.Ytbbmfpdlkogkfaa.Co
end
section
namespace Go.Proofs.Ytbbmfpdlkogkfaa.Co
open Go.RowKit Go.Shelf
theorem swap_right {x : Con} {a b : Int} (h : treeB x = true) (h0 : (swapI x a b).2 = 0) : treeB (swapI x a b).1 = true ∧ swapI (swapI x a b).1 a b = (x, 0) ∧ cnt (swapI x a b).1 = cnt x := by
  rcases findI_spec (c := a) h with ⟨h1, _⟩ | ⟨_, v, hv, _⟩
  · rw [swapI_none h (.inl h1)] at h0; exact absurd h0 (by decide)
  rcases findI_spec (c := b) h with ⟨h1, _⟩ | ⟨_, u, hu, _⟩
  · rw [swapI_none h (.inr h1)] at h0; exact absurd h0 (by decide)
  rw [swapI_at h hv hu]
  exact swap_tree h hv hu
theorem growZ_in9 {z : Int} (y : Nat) (h : 1 ≤ z ∧ z ≤ 1048576) : 1 ≤ growZ z y ∧ growZ z y ≤ 1048576 := by
  unfold growZ growL
  split
  · simpa using h
  · simpa using wt_bounds _
theorem growN_tree {kind : Int} {yb : Nat} {x : Con} {u : List Nat} (h : treeB x = true) : ∀ d, (growN kind yb x u d).2 = 0 → treeB (growN kind yb x u d).1 = true ∧ clients (growN kind yb x u d).1 = clients x ∧ cnt (growN kind yb x u d).1 = cnt x
  | 0 => fun h0 => absurd h0 (by simp only [growN]; decide)
  | d + 1 => by
    simp only [growN]
    split
    · rename_i p q hp hq
      split
      · split
        · rename_i hE
          intro _
          obtain ⟨h1, -, -⟩ := growE_ok hE
          have hw := growZ_in9 yb ((chk_zero h1).2.2 q.a.w (by simp))
          exact tree_w h hq hw.1 hw.2
        · rename_i hE
          intro h0
          exact absurd h0 hE
      · exact growN_tree h d
    · intro h0
      exact absurd h0 (by show ¬ (120 : Int) = 0; decide)
theorem grow_tree {x : Con} {c k : Int} {yb : Nat} (h : treeB x = true) (h0 : (growI x c k yb).2 = 0) : treeB (growI x c k yb).1 = true ∧ clients (growI x c k yb).1 = clients x ∧ cnt (growI x c k yb).1 = cnt x := by
  unfold growI at h0 ⊢
  split
  · rename_i h1; rw [if_pos h1] at h0; exact absurd h0 (by decide)
  · rename_i h1
    rw [if_neg h1] at h0
    rcases findI_spec (c := c) h with ⟨h2, _⟩ | ⟨_, u, hu, _⟩
    · rw [chgI_none h h2] at h0; exact absurd h0 (by decide)
    rw [chgI_some h hu] at h0 ⊢
    exact growN_tree h _ h0
theorem growN_fine9 {kind : Int} {yb : Nat} {x : Con} {u : List Nat} (hf : fine x) : ∀ d, fine (growN kind yb x u d).1
  | 0 => hf
  | d + 1 => by
    simp only [growN]
    split
    · rename_i p q hp hq
      split
      · split
        · rename_i hE
          obtain ⟨h1, -, -⟩ := growE_ok hE
          have hw := growZ_in9 yb ((chk_zero h1).2.2 q.a.w (by simp))
          have hI : I64 (growZ q.a.w yb) := ⟨by omega, by omega⟩
          obtain ⟨⟨f0, f1, f2, f3⟩, f4⟩ := hf _ q hq
          have := fine_get hf hq
          obtain ⟨a, ks⟩ := q
          exact fine_put hf (fine_mk ⟨f0, hI, f2, f3⟩ f4 (fine_kids this).2.2)
        · exact hf
      · exact growN_fine9 hf d
    · exact hf
theorem grow_fine9 {x : Con} {c k : Int} {yb : Nat} (hf : fine x) : fine (growI x c k yb).1 := by
  unfold growI; split; exact zeroT_fine; exact chg_fine fun u => growN_fine9 hf _
theorem remove_right {x : Con} {c : Int} (h : treeB x = true) (h0 : (removeD x c).2 = 0) : treeB (removeD x c).1 = true ∧ (clients (removeD x c).1).length + 1 = (clients x).length ∧ cnt (removeD x c).1 ≤ cnt x := by
  unfold removeD at h0 ⊢
  rw [if_neg (by rw [h]; simp)] at h0 ⊢
  by_cases hh : hasB x c = false
  · rw [if_pos hh] at h0; exact absurd h0 (by decide)
  rw [if_neg hh]
  obtain ⟨h1, h2, h3⟩ := remove_tree (c := c) h
  refine ⟨h1, ?_, h3⟩
  show (clients (.mk x.a (lessL c x.ks))).length + 1 = _
  rw [h2]
  exact filter_one (tree_parts h).2.1 (hasB_iff.1 (by cases hB : hasB x c; exact absurd hB hh; rfl))
theorem remove_fine9 {x : Con} {c : Int} (hf : fine x) : fine (removeD x c).1 := by
  by_cases h0 : (removeD x c).2 = 0
  · exact remove_fine hf h0
  · unfold removeD at h0 ⊢
    split
    · exact zeroT_fine
    · split
      · exact zeroT_fine
      · rename_i h2 h3
        rw [if_neg h2, if_neg h3] at h0
        exact absurd rfl h0
theorem leaves_same {x y : Con} (hx : treeB x = true) (hy : treeB y = true) (h : clients y = clients x) : leavesI y = leavesI x := by rw [leaves_clients hx, leaves_clients hy, h]
/-- What holds of what a call tells that went well. -/
theorem swap_ok {x Y : Con} {a b er : Int} (h : treeB x = true) (hf : fine x) (hc : cnt x ≤ 500) (hr : (Y, er) = swapI x a b) (h0 : er = 0) : treeB Y = true ∧ Small Y ∧ swapI Y a b = (x, 0) := by
  have e1 := congrArg Prod.fst hr
  have e2 := congrArg Prod.snd hr
  simp only at e1 e2
  subst e1 e2
  obtain ⟨h1, h2, h3⟩ := swap_right h h0
  exact ⟨h1, small_of (by omega) (swap_fine' hf), h2⟩
theorem wrap_ok {x Y : Con} {a k er : Int} (h : treeB x = true) (hf : fine x) (hk : I64 k) (hc : cnt x ≤ 500) (hr : (Y, er) = wrapI x a k) (h0 : er = 0) : treeB Y = true ∧ Small Y ∧ leavesI Y = leavesI x := by
  have e1 := congrArg Prod.fst hr
  have e2 := congrArg Prod.snd hr
  simp only at e1 e2
  subst e1 e2
  obtain ⟨h1, h2, h3⟩ := wrap_tree h h0
  exact ⟨h1, small_of (by omega) (wrap_fine hf hk), leaves_same h h1 h2⟩
theorem grow_ok9 {x Y : Con} {a k er : Int} {yb : Nat} (h : treeB x = true) (hf : fine x) (hc : cnt x ≤ 500) (hr : (Y, er) = growI x a k yb) (h0 : er = 0) : treeB Y = true ∧ Small Y ∧ leavesI Y = leavesI x := by
  have e1 := congrArg Prod.fst hr
  have e2 := congrArg Prod.snd hr
  simp only at e1 e2
  subst e1 e2
  obtain ⟨h1, h2, h3⟩ := grow_tree h h0
  exact ⟨h1, small_of (by omega) (grow_fine9 hf), leaves_same h h1 h2⟩
theorem rem_ok {x Y : Con} {a er : Int} (h : treeB x = true) (hf : fine x) (hc : cnt x ≤ 500) (hr : (Y, er) = removeD x a) (h0 : er = 0) : treeB Y = true ∧ Small Y ∧ (leavesI Y).length + 1 = (leavesI x).length := by
  have e1 := congrArg Prod.fst hr
  have e2 := congrArg Prod.snd hr
  simp only at e1 e2
  subst e1 e2
  obtain ⟨h1, h2, h3⟩ := remove_right h h0
  exact ⟨h1, small_of (by omega) (remove_fine9 hf), by rw [leaves_clients h, leaves_clients h1]; exact h2⟩
theorem grow_ans {x : Con} {p : Option Addr} {n cap : Nat} {w W : World} (a b : Int) (yb : Nat) (hK : KV w (fun b => b < w.heap.size) x.ks (.slice p n cap)) (hs : Small x) (h : Below w.heap.size w W) : Calls Try.prog 43 #[.agg #[.int .i64 x.a.k, .int .i64 x.a.w, .int .i64 x.a.c, .int .i64 x.a.s, .slice p n cap], .int .i64 a, .int .i64 b, .float .f64 yb] W (AnsR w.heap.size (growI x a b yb) W) :=
  (growc_c x (.slice p n cap) a b yb W (hK.next h).all hs.wide hs.ht hs.wd).mono fun _ _ h2 => h2.1.ans h2.2 (grow_fine9 hs.f)
end Go.Proofs.Ytbbmfpdlkogkfaa.Co
end
section
namespace Go.Proofs.Ytbbmfpdlkogkfaa.Co
open Go.RowKit Go.Shelf
set_option maxHeartbeats 4000000 in
set_option maxRecDepth 100000 in
theorem right_c (x : Con) (sv : Value) (a b k : Int) (yb : Nat) (w : World) (hI : I64 k) (hK : KV w (fun b => b < w.heap.size) x.ks sv) (hw : x.a.wide) :
    Calls Try.prog 10 #[conV x.a sv, .int .i64 a, .int .i64 b, .int .i64 k, .float .f64 yb] w fun e w' => e = .returned (.bool true) ∧ Below w.heap.size w w' := by
  obtain ⟨p, cap, rfl, -⟩ := hK.slice
  obtain ⟨n, hn⟩ : ∃ n, n = x.ks.length := ⟨_, rfl⟩
  rw [← hn] at hK ⊢
  have hb0 := (Below.refl w.heap.size w).alloc (Nat.le_refl _) (.cells #[.int .i64 x.a.k, .int .i64 x.a.w, .int .i64 x.a.c, .int .i64 x.a.s, .slice p n cap] 24)
  have hq0 := Blk.new w 24 #[.int .i64 x.a.k, .int .i64 x.a.w, .int .i64 x.a.c, .int .i64 x.a.s, .slice p n cap]
  have HF := Lib.hid (few_c (fun b => b < w.heap.size) x (.slice p n cap) _ (hK.next hb0))
  have HB := Lib.hid hb0
  have HQ := Lib.hid hq0
  have HK := Lib.hid hK
  obtain ⟨dn, hdn⟩ : ∃ d, d = decide (nodesC x 0 ≤ 500) := ⟨_, rfl⟩
  rw [← hdn] at HF
  have HD := Lib.hid hdn
  have HW := Lib.hid hw
  have HIB := Lib.hid hI
  clear hn hK hb0 hq0 hdn hw hI
  show Calls Try.prog 10 #[.agg #[.int .i64 x.a.k, .int .i64 x.a.w, .int .i64 x.a.c, .int .i64 x.a.s, .slice p n cap], .int .i64 a, .int .i64 b, .int .i64 k, .float .f64 yb] w _
  go_enter Try.func10, Try.ntmps10
  go_wp2_with fail
  refine HF.out.mono ?_
  rintro e w1 ⟨rfl, hb⟩
  have HB1 := Lib.hid (HB.out.trans (hb.mono HB.out.size))
  have HQ1 := Lib.hid (HQ.out.next hb)
  obtain ⟨⟨b0, b1, b2, b3, b4⟩, -⟩ := c5 HQ1.out
  clear hb HF HB
  cases dn
  · go_wp2_with fail
    refine (awake_c w1).mono ?_
    rintro e w2 ⟨rfl, hb⟩
    have HB2 := HB1.out.trans (hb.mono HB1.out.size)
    clear hb
    go_wp2_with fail
    go_ret
    exact ⟨rfl, HB2⟩
  · have hn5 := few_cnt (of_decide_eq_true HD.out.symm)
    have hs := Small.of HK.out HW.out (of_decide_eq_true HD.out.symm)
    have HS := Lib.hid hs
    have HN5 := Lib.hid hn5
    have HC := Lib.hid (chkI_k (HK.out.next HB1.out).all hs)
    obtain ⟨ck, hck⟩ : ∃ z, z = checkI x := ⟨_, rfl⟩
    rw [← hck] at HC
    rw [checkI_eq] at hck
    clear HD hs hn5
    go_wp2_with fail
    refine HC.out.mono ?_
    rintro e w2 ⟨rfl, hb⟩
    have HB2 := Lib.hid (HB1.out.trans (hb.mono HB1.out.size))
    have HQ2 := Lib.hid (HQ1.out.next hb)
    clear hb HC HB1 HQ1 b0 b1 b2 b3 b4
    obtain ⟨⟨b0, b1, b2, b3, b4⟩, -⟩ := c5 HQ2.out
    by_cases ht : treeB x = true
    rotate_left
    · rw [if_pos (by cases h : treeB x; rfl; exact absurd h ht)] at hck
      subst hck
      clear ht
      go_wp2_with fail
      refine (awake_c w2).mono ?_
      rintro e w3 ⟨rfl, hb⟩
      have HB3 := HB2.out.trans (hb.mono HB2.out.size)
      clear hb
      go_wp2_with fail
      go_ret
      exact ⟨rfl, HB3⟩
    rw [if_neg (by rw [ht]; simp)] at hck
    subst hck
    have HT := Lib.hid ht
    clear ht
    go_upto_region 3 with fail
    -- Swap
    have HC := Lib.hid (swap_ans  (w := w) (W := w2) a b HK.out HS.out HB2.out)
    obtain ⟨r, hr⟩ : ∃ r, r = swapI x a b := ⟨_, rfl⟩
    rw [← hr] at HC
    obtain ⟨Y, er⟩ := r
    have HOK := Lib.hid (fun h0 : er = 0 => swap_ok HT.out HS.out.f HN5.out hr h0)
    clear hr
    go_wp2_with fail
    refine HC.out.mono ?_
    rintro e w3 ⟨y, py, ny, ky, rfl, hky, hy, hb⟩
    simp only at hy ⊢
    have HY := Lib.hid hy
    have HB3 := Lib.hid (HB2.out.trans (hb.mono HB2.out.size))
    have HQ3 := Lib.hid (HQ2.out.next hb)
    have HKY := Lib.hid hky
    clear hb hky hy HC b0 b1 b2 b3 b4 HB2 HQ2
    go_upto_region 4 with fail
    have hbA := HB3.out.alloc HB3.out.size (.cells #[.int .i64 y.a.k, .int .i64 y.a.w, .int .i64 y.a.c, .int .i64 y.a.s, .slice py ny ky] 24)
    have hqA := Blk.new w3 24 #[.int .i64 y.a.k, .int .i64 y.a.w, .int .i64 y.a.c, .int .i64 y.a.s, .slice py ny ky]
    have hqx := HQ3.out.alloc (.cells #[.int .i64 y.a.k, .int .i64 y.a.w, .int .i64 y.a.c, .int .i64 y.a.s, .slice py ny ky] 24)
    have hkA := HKY.out.alloc (.cells #[.int .i64 y.a.k, .int .i64 y.a.w, .int .i64 y.a.c, .int .i64 y.a.s, .slice py ny ky] 24)
    obtain ⟨wm, hv1⟩ : ∃ v1, v1 = w3.alloc (.cells #[.int .i64 y.a.k, .int .i64 y.a.w, .int .i64 y.a.c, .int .i64 y.a.s, .slice py ny ky] 24) := ⟨_, rfl⟩
    obtain ⟨gA, hgA⟩ : ∃ g, g = w3.heap.size := ⟨_, rfl⟩
    rw [← hv1] at hbA hqA hqx hkA ⊢
    rw [← hgA] at hqA ⊢
    have HGM := Lib.hid hqA
    have HBM := Lib.hid hbA
    have HQM := Lib.hid hqx
    have HKM := Lib.hid hkA.all
    clear hv1 hgA hbA hqA hqx hkA HB3 HQ3 HKY
    go_upto_if 35 with fail
    go_cut [] (fun wx => Below w.heap.size w wx ∧ Blk wx w.heap.size 24 #[.int .i64 x.a.k, .int .i64 x.a.w, .int .i64 x.a.c, .int .i64 x.a.s, .slice p n cap])
    case first =>
      by_cases h0 : er = 0
      rotate_left
      · have hne : (er == 0) = false := by simpa using h0
        clear h0
        go_wp2_with fail
        go_meet
        exact ⟨HBM.out, HQM.out⟩
      · obtain ⟨hty, hsy, hsw⟩ := HOK.out h0
        subst h0
        have hyy := HY.out
        rw [if_pos rfl] at hyy
        subst hyy
        have HTY := Lib.hid hty
        have HSY := Lib.hid hsy
        have HSW := Lib.hid hsw
        clear hty hsy hsw HOK HY
        have HC := Lib.hid (swap_ans (w := wm) (W := wm) a b HKM.out HSY.out (Below.refl _ _))
        rw [HSW.out] at HC
        obtain ⟨⟨b0, b1, b2, b3, b4⟩, -⟩ := c5 HQM.out
        obtain ⟨⟨y0, y1, y2, y3, y4⟩, -⟩ := c5 HGM.out
        have hlA := HGM.out.lt
        go_upto_region 5 with fail
        go_wp2_with fail
        refine HC.out.mono ?_
        rintro e w5 ⟨z, pz, nz, kz, rfl, hkz, hz, hb⟩
        rw [if_pos rfl] at hz
        simp only at hz
        subst hz
        have HB5 := Lib.hid (HBM.out.trans (hb.mono HBM.out.size))
        have HQ5 := Lib.hid (HQM.out.next hb)
        have HG5 := Lib.hid (HGM.out.next hb)
        have HKY5 := Lib.hid (HKM.out.next hb)
        have HKZ := Lib.hid hkz
        clear hb hkz HC b0 b1 b2 b3 b4 y0 y1 y2 y3 y4 hlA HKM HGM HQM HBM HSW
        have hbA := HB5.out.alloc HB5.out.size (.cells #[.int .i64 z.a.k, .int .i64 z.a.w, .int .i64 z.a.c, .int .i64 z.a.s, .slice pz nz kz] 24)
        have hqB := Blk.new w5 24 #[.int .i64 z.a.k, .int .i64 z.a.w, .int .i64 z.a.c, .int .i64 z.a.s, .slice pz nz kz]
        have hqx := HQ5.out.alloc (.cells #[.int .i64 z.a.k, .int .i64 z.a.w, .int .i64 z.a.c, .int .i64 z.a.s, .slice pz nz kz] 24)
        have hqA := HG5.out.alloc (.cells #[.int .i64 z.a.k, .int .i64 z.a.w, .int .i64 z.a.c, .int .i64 z.a.s, .slice pz nz kz] 24)
        have hkA := HKY5.out.alloc (.cells #[.int .i64 z.a.k, .int .i64 z.a.w, .int .i64 z.a.c, .int .i64 z.a.s, .slice pz nz kz] 24)
        have hkB := HKZ.out.alloc (.cells #[.int .i64 z.a.k, .int .i64 z.a.w, .int .i64 z.a.c, .int .i64 z.a.s, .slice pz nz kz] 24)
        obtain ⟨⟨b0, b1, b2, b3, b4⟩, -⟩ := c5 HQ5.out
        obtain ⟨⟨y0, y1, y2, y3, y4⟩, -⟩ := c5 HG5.out
        go_upto_region 6 with fail
        obtain ⟨v2, hv2⟩ : ∃ v2, v2 = w5.alloc (.cells #[.int .i64 z.a.k, .int .i64 z.a.w, .int .i64 z.a.c, .int .i64 z.a.s, .slice pz nz kz] 24) := ⟨_, rfl⟩
        obtain ⟨gB, hgB⟩ : ∃ g, g = w5.heap.size := ⟨_, rfl⟩
        rw [← hv2] at hbA hqA hqB hqx hkA hkB ⊢
        rw [← hgB] at hqB ⊢
        have HB6 := Lib.hid hbA
        have HQ6 := Lib.hid hqx
        have HGA6 := Lib.hid hqA
        have HGB6 := Lib.hid hqB
        have HKY6 := Lib.hid hkA.all
        have HKZ6 := Lib.hid hkB
        have HKX6 := Lib.hid (HK.out.next hbA)
        clear hv2 hgB hbA hqA hqB hqx hkA hkB b0 b1 b2 b3 b4 y0 y1 y2 y3 y4 HB5 HQ5 HG5 HKY5 HKZ
        obtain ⟨⟨b0, b1, b2, b3, b4⟩, -⟩ := c5 HQ6.out
        obtain ⟨⟨y0, y1, y2, y3, y4⟩, -⟩ := c5 HGA6.out
        obtain ⟨⟨z0, z1, z2, z3, z4⟩, -⟩ := c5 HGB6.out
        go_wp2_with fail
        refine (same_self rfl HKZ6.out HKX6.out).mono ?_
        rintro e w7 ⟨rfl, hb⟩
        have HB7 := Lib.hid (HB6.out.trans (hb.mono HB6.out.size))
        have HQ7 := Lib.hid (HQ6.out.next hb)
        have HGA7 := Lib.hid (HGA6.out.next hb)
        have HKY7 := Lib.hid (HKY6.out.next hb)
        clear hb b0 b1 b2 b3 b4 y0 y1 y2 y3 y4 z0 z1 z2 z3 z4 HB6 HQ6 HGA6 HGB6 HKY6 HKZ6 HKX6
        obtain ⟨⟨b0, b1, b2, b3, b4⟩, -⟩ := c5 HQ7.out
        obtain ⟨⟨y0, y1, y2, y3, y4⟩, -⟩ := c5 HGA7.out
        go_wp2_with fail
        refine (chk_k HKY7.out HSY.out HTY.out).mono ?_
        rintro e w8 ⟨rfl, hb⟩
        have HB8 := Lib.hid (HB7.out.trans (hb.mono HB7.out.size))
        have HQ8 := Lib.hid (HQ7.out.next hb)
        clear hb
        go_wp2_with fail
        go_meet
        exact ⟨HB8.out, HQ8.out⟩
    case rest =>
    obtain ⟨hB, hQ⟩ := hcut
    have HB2 := Lib.hid hB
    have HQ2 := Lib.hid hQ
    clear hB hQ HBM HQM HGM HKM HOK HY
    obtain ⟨w2, hw2⟩ : ∃ w1, w1 = wc := ⟨_, rfl⟩
    subst hw2
    obtain ⟨⟨b0, b1, b2, b3, b4⟩, -⟩ := c5 HQ2.out
    -- Wrap
    go_upto_region 8 with fail
    have HC := Lib.hid (wrap_ans  (w := w) (W := w2) a k HIB.out HK.out HS.out HB2.out)
    obtain ⟨r, hr⟩ : ∃ r, r = wrapI x a k := ⟨_, rfl⟩
    rw [← hr] at HC
    obtain ⟨Y, er⟩ := r
    have HOK := Lib.hid (fun h0 : er = 0 => wrap_ok HT.out HS.out.f HIB.out HN5.out hr h0)
    clear hr
    go_wp2_with fail
    refine HC.out.mono ?_
    rintro e w3 ⟨y, py, ny, ky, rfl, hky, hy, hb⟩
    simp only at hy ⊢
    have HY := Lib.hid hy
    have HB3 := Lib.hid (HB2.out.trans (hb.mono HB2.out.size))
    have HQ3 := Lib.hid (HQ2.out.next hb)
    have HKY := Lib.hid hky
    clear hb hky hy HC b0 b1 b2 b3 b4 HB2 HQ2
    go_upto_region 9 with fail
    have hbA := HB3.out.alloc HB3.out.size (.cells #[.int .i64 y.a.k, .int .i64 y.a.w, .int .i64 y.a.c, .int .i64 y.a.s, .slice py ny ky] 24)
    have hqA := Blk.new w3 24 #[.int .i64 y.a.k, .int .i64 y.a.w, .int .i64 y.a.c, .int .i64 y.a.s, .slice py ny ky]
    have hqx := HQ3.out.alloc (.cells #[.int .i64 y.a.k, .int .i64 y.a.w, .int .i64 y.a.c, .int .i64 y.a.s, .slice py ny ky] 24)
    have hkA := HKY.out.alloc (.cells #[.int .i64 y.a.k, .int .i64 y.a.w, .int .i64 y.a.c, .int .i64 y.a.s, .slice py ny ky] 24)
    obtain ⟨wm, hv1⟩ : ∃ v1, v1 = w3.alloc (.cells #[.int .i64 y.a.k, .int .i64 y.a.w, .int .i64 y.a.c, .int .i64 y.a.s, .slice py ny ky] 24) := ⟨_, rfl⟩
    obtain ⟨gA, hgA⟩ : ∃ g, g = w3.heap.size := ⟨_, rfl⟩
    rw [← hv1] at hbA hqA hqx hkA ⊢
    rw [← hgA] at hqA ⊢
    have HGM := Lib.hid hqA
    have HBM := Lib.hid hbA
    have HQM := Lib.hid hqx
    have HKM := Lib.hid hkA.all
    clear hv1 hgA hbA hqA hqx hkA HB3 HQ3 HKY
    go_upto_region 9 with fail
    go_cut [77] (fun s wx => s = .bool false ∧ Below w.heap.size w wx ∧ Blk wx w.heap.size 24 #[.int .i64 x.a.k, .int .i64 x.a.w, .int .i64 x.a.c, .int .i64 x.a.s, .slice p n cap])
    case first =>
      by_cases h0 : er = 0
      rotate_left
      · have hne : (er == 0) = false := by simpa using h0
        clear h0
        have HBD := Lib.hid HBM.out.drew
        have HQD := Lib.hid HQM.out.drew
        refine wp_region_noPanic ?_
        refine wp_region_held_drew (S := fun _ => True) (by kernel_rfl) (by trivial) (fun hHeld => ?_)
        refine wpAnyH_take (i := 0) (v := ?vq9a0) rfl (by kernel_rfl) (by kernel_rfl) (by kernel_rfl) (fun _ _ _ h => h) (Or.inl ⟨by kernel_rfl, ?yq9a0⟩) (by assumption) ?rq9a0
        case yq9a0 => (intro wq hSw; (try dsimp only at hSw); go_simp; (try with_reducible rfl))
        (try simp only [Act.put, List.getElem_toArray, List.getElem_cons_zero, List.setIfInBounds_toArray, List.set_cons_zero, List.set_cons_succ])
        refine wpAnyH_take (i := 1) (v := ?vq9a1) rfl (by kernel_rfl) (by kernel_rfl) (by kernel_rfl) (fun _ _ _ h => h) (Or.inl ⟨by kernel_rfl, ?yq9a1⟩) (by assumption) ?rq9a1
        case yq9a1 => (intro wq hSw; (try dsimp only at hSw); go_simp; (try with_reducible rfl))
        (try simp only [Act.put, List.getElem_toArray, List.getElem_cons_succ, List.getElem_cons_zero, List.setIfInBounds_toArray, List.set_cons_zero, List.set_cons_succ])
        refine wpAnyH_take (i := 2) (v := ?vq9a2) rfl (by kernel_rfl) (by kernel_rfl) (by kernel_rfl) (fun _ _ _ h => h) (Or.inl ⟨by kernel_rfl, ?yq9a2⟩) (by assumption) ?rq9a2
        case yq9a2 => (intro wq hSw; (try dsimp only at hSw); go_simp; (try with_reducible rfl))
        (try simp only [Act.put, List.getElem_toArray, List.getElem_cons_succ, List.getElem_cons_zero, List.setIfInBounds_toArray, List.set_cons_zero, List.set_cons_succ])
        refine wpAnyH_take (i := 3) (v := undef) rfl (by kernel_rfl) (by kernel_rfl) (by kernel_rfl) (fun _ _ _ h => h) (Or.inr ⟨by kernel_rfl, rfl⟩) (by assumption) ?_
        (try simp only [Act.put, List.getElem_toArray, List.getElem_cons_succ, List.getElem_cons_zero, List.setIfInBounds_toArray, List.set_cons_zero, List.set_cons_succ])
        refine wpAnyH_take (i := 4) (v := undef) rfl (by kernel_rfl) (by kernel_rfl) (by kernel_rfl) (fun _ _ _ h => h) (Or.inr ⟨by kernel_rfl, rfl⟩) (by assumption) ?_
        (try simp only [Act.put, List.getElem_toArray, List.getElem_cons_succ, List.getElem_cons_zero, List.setIfInBounds_toArray, List.set_cons_zero, List.set_cons_succ])
        refine wpAnyH_take (i := 5) (v := undef) rfl (by kernel_rfl) (by kernel_rfl) (by kernel_rfl) (fun _ _ _ h => h) (Or.inr ⟨by kernel_rfl, rfl⟩) (by assumption) ?_
        (try simp only [Act.put, List.getElem_toArray, List.getElem_cons_succ, List.getElem_cons_zero, List.setIfInBounds_toArray, List.set_cons_zero, List.set_cons_succ])
        refine wpAnyH_take (i := 6) (v := undef) rfl (by kernel_rfl) (by kernel_rfl) (by kernel_rfl) (fun _ _ _ h => h) (Or.inr ⟨by kernel_rfl, rfl⟩) (by assumption) ?_
        (try simp only [Act.put, List.getElem_toArray, List.getElem_cons_succ, List.getElem_cons_zero, List.setIfInBounds_toArray, List.set_cons_zero, List.set_cons_succ])
        refine wpAnyH_take (i := 7) (v := undef) rfl (by kernel_rfl) (by kernel_rfl) (by kernel_rfl) (fun _ _ _ h => h) (Or.inr ⟨by kernel_rfl, rfl⟩) (by assumption) ?_
        (try simp only [Act.put, List.getElem_toArray, List.getElem_cons_succ, List.getElem_cons_zero, List.setIfInBounds_toArray, List.set_cons_zero, List.set_cons_succ])
        refine wpAnyH_take (i := 8) (v := undef) rfl (by kernel_rfl) (by kernel_rfl) (by kernel_rfl) (fun _ _ _ h => h) (Or.inr ⟨by kernel_rfl, rfl⟩) (by assumption) ?_
        (try simp only [Act.put, List.getElem_toArray, List.getElem_cons_succ, List.getElem_cons_zero, List.setIfInBounds_toArray, List.set_cons_zero, List.set_cons_succ])
        refine wpAnyH_take (i := 9) (v := undef) rfl (by kernel_rfl) (by kernel_rfl) (by kernel_rfl) (fun _ _ _ h => h) (Or.inr ⟨by kernel_rfl, rfl⟩) (by assumption) ?_
        (try simp only [Act.put, List.getElem_toArray, List.getElem_cons_succ, List.getElem_cons_zero, List.setIfInBounds_toArray, List.set_cons_zero, List.set_cons_succ])
        refine wpAnyH_take (i := 10) (v := undef) rfl (by kernel_rfl) (by kernel_rfl) (by kernel_rfl) (fun _ _ _ h => h) (Or.inr ⟨by kernel_rfl, rfl⟩) (by assumption) ?_
        (try simp only [Act.put, List.getElem_toArray, List.getElem_cons_succ, List.getElem_cons_zero, List.setIfInBounds_toArray, List.set_cons_zero, List.set_cons_succ])
        refine wpAnyH_take (i := 11) (v := undef) rfl (by kernel_rfl) (by kernel_rfl) (by kernel_rfl) (fun _ _ _ h => h) (Or.inr ⟨by kernel_rfl, rfl⟩) (by assumption) ?_
        (try simp only [Act.put, List.getElem_toArray, List.getElem_cons_succ, List.getElem_cons_zero, List.setIfInBounds_toArray, List.set_cons_zero, List.set_cons_succ])
        refine wpAnyH_take (i := 12) (v := undef) rfl (by kernel_rfl) (by kernel_rfl) (by kernel_rfl) (fun _ _ _ h => h) (Or.inr ⟨by kernel_rfl, rfl⟩) (by assumption) ?_
        (try simp only [Act.put, List.getElem_toArray, List.getElem_cons_succ, List.getElem_cons_zero, List.setIfInBounds_toArray, List.set_cons_zero, List.set_cons_succ])
        refine wpAnyH_take (i := 13) (v := undef) rfl (by kernel_rfl) (by kernel_rfl) (by kernel_rfl) (fun _ _ _ h => h) (Or.inr ⟨by kernel_rfl, rfl⟩) (by assumption) ?_
        (try simp only [Act.put, List.getElem_toArray, List.getElem_cons_succ, List.getElem_cons_zero, List.setIfInBounds_toArray, List.set_cons_zero, List.set_cons_succ])
        refine wpAnyH_take (i := 14) (v := ?vq9a14) rfl (by kernel_rfl) (by kernel_rfl) (by kernel_rfl) (fun _ _ _ h => h) (Or.inl ⟨by kernel_rfl, ?yq9a14⟩) (by assumption) ?rq9a14
        case yq9a14 => (intro wq hSw; (try dsimp only at hSw); go_simp; (try with_reducible rfl))
        (try simp only [Act.put, List.getElem_toArray, List.getElem_cons_succ, List.getElem_cons_zero, List.setIfInBounds_toArray, List.set_cons_zero, List.set_cons_succ])
        refine wpAnyH_done (by kernel_rfl) ?_ _
        refine NoPanic.normal ?_
        go_wp2_with fail
        go_meet
        exact ⟨rfl, HBD.out, HQD.out⟩
      · obtain ⟨hty, hsy, hlv⟩ := HOK.out h0
        subst h0
        have hyy := HY.out
        rw [if_pos rfl] at hyy
        subst hyy
        have HTY := Lib.hid hty
        have HSY := Lib.hid hsy
        have HLV := Lib.hid hlv
        have HKX4 := Lib.hid (HK.out.next HBM.out).all
        have HQ4 := HQM
        have HG4 := HGM
        have HB4 := HBM
        have HKY4 := HKM
        clear hty hsy hlv HOK HY HQM HGM HBM HKM
        have S4 : wm.cell? ⟨w.heap.size, 0, none⟩ = some (.int .i64 x.a.k) ∧ wm.cell? ⟨w.heap.size, 1, none⟩ = some (.int .i64 x.a.w) ∧ wm.cell? ⟨w.heap.size, 2, none⟩ = some (.int .i64 x.a.c) ∧ wm.cell? ⟨w.heap.size, 3, none⟩ = some (.int .i64 x.a.s) ∧ wm.cell? ⟨w.heap.size, 4, none⟩ = some (.slice p n cap) ∧ wm.cell? ⟨gA, 0, none⟩ = some (.int .i64 y.a.k) ∧ wm.cell? ⟨gA, 1, none⟩ = some (.int .i64 y.a.w) ∧ wm.cell? ⟨gA, 2, none⟩ = some (.int .i64 y.a.c) ∧ wm.cell? ⟨gA, 3, none⟩ = some (.int .i64 y.a.s) ∧ wm.cell? ⟨gA, 4, none⟩ = some (.slice py ny ky) := by obtain ⟨⟨t0, t1, t2, t3, t4⟩, -⟩ := c5 HQ4.out; obtain ⟨⟨t5, t6, t7, t8, t9⟩, -⟩ := c5 HG4.out; exact ⟨t0, t1, t2, t3, t4, t5, t6, t7, t8, t9⟩
        refine wp_region_noPanic ?_
        refine wp_region_held_drew (S := fun wx => wx.cell? ⟨w.heap.size, 0, none⟩ = some (.int .i64 x.a.k) ∧ wx.cell? ⟨w.heap.size, 1, none⟩ = some (.int .i64 x.a.w) ∧ wx.cell? ⟨w.heap.size, 2, none⟩ = some (.int .i64 x.a.c) ∧ wx.cell? ⟨w.heap.size, 3, none⟩ = some (.int .i64 x.a.s) ∧ wx.cell? ⟨w.heap.size, 4, none⟩ = some (.slice p n cap) ∧ wx.cell? ⟨gA, 0, none⟩ = some (.int .i64 y.a.k) ∧ wx.cell? ⟨gA, 1, none⟩ = some (.int .i64 y.a.w) ∧ wx.cell? ⟨gA, 2, none⟩ = some (.int .i64 y.a.c) ∧ wx.cell? ⟨gA, 3, none⟩ = some (.int .i64 y.a.s) ∧ wx.cell? ⟨gA, 4, none⟩ = some (.slice py ny ky)) (by kernel_rfl) (by exact S4) (fun hHeld => ?_)
        refine wpAnyH_take (i := 0) (v := ?vp9a0) rfl (by kernel_rfl) (by kernel_rfl) (by kernel_rfl) (fun _ _ _ h => h) (Or.inl ⟨by kernel_rfl, ?yp9a0⟩) (by assumption) ?rp9a0
        case yp9a0 => (intro wq hSw; (try dsimp only at hSw); go_simp; (try with_reducible rfl))
        (try simp only [Act.put, List.getElem_toArray, List.getElem_cons_zero, List.setIfInBounds_toArray, List.set_cons_zero, List.set_cons_succ])
        refine wpAnyH_take (i := 1) (v := ?vp9a1) rfl (by kernel_rfl) (by kernel_rfl) (by kernel_rfl) (fun _ _ _ h => h) (Or.inl ⟨by kernel_rfl, ?yp9a1⟩) (by assumption) ?rp9a1
        case yp9a1 => (intro wq hSw; (try dsimp only at hSw); go_simp; (try with_reducible rfl))
        (try simp only [Act.put, List.getElem_toArray, List.getElem_cons_succ, List.getElem_cons_zero, List.setIfInBounds_toArray, List.set_cons_zero, List.set_cons_succ])
        refine wpAnyH_take (i := 2) (v := ?vp9a2) rfl (by kernel_rfl) (by kernel_rfl) (by kernel_rfl) (fun _ _ _ h => h) (Or.inl ⟨by kernel_rfl, ?yp9a2⟩) (by assumption) ?rp9a2
        case yp9a2 => (intro wq hSw; (try dsimp only at hSw); go_simp; (try with_reducible rfl))
        (try simp only [Act.put, List.getElem_toArray, List.getElem_cons_succ, List.getElem_cons_zero, List.setIfInBounds_toArray, List.set_cons_zero, List.set_cons_succ])
        refine wpAnyH_take (i := 3) (v := ?vp9a3) rfl (by kernel_rfl) (by kernel_rfl) (by kernel_rfl) (fun _ _ _ h => h) (Or.inl ⟨by kernel_rfl, ?yp9a3⟩) (by assumption) ?rp9a3
        case yp9a3 => (intro wq hSw; (try dsimp only at hSw); go_simp; (try with_reducible rfl))
        (try simp only [Act.put, List.getElem_toArray, List.getElem_cons_succ, List.getElem_cons_zero, List.setIfInBounds_toArray, List.set_cons_zero, List.set_cons_succ])
        refine wpAnyH_ready (rs := [4]) (by kernel_rfl) (by simp) ?_
        refine AllReadyH.cons rfl (fun K hK => ?_) AllReadyH.nil
        go_simp
        refine (chk_k (W := wm.drew) HKY4.out.drew HSY.out HTY.out).mono ?_
        rintro ex w5 ⟨rfl, hb⟩; have HB5 := Lib.hid ((HB4.out.drew).trans (hb.mono (HB4.out.drew).size)); have HQ5 := Lib.hid ((HQ4.out.drew).next hb); have HG5 := Lib.hid ((HG4.out.drew).next hb); have HKX5 := Lib.hid ((HKX4.out.drew).next hb); have HKY5 := Lib.hid ((HKY4.out.drew).next hb); clear hb; obtain ⟨⟨t0, t1, t2, t3, t4⟩, -⟩ := c5 HQ5.out; obtain ⟨⟨t5, t6, t7, t8, t9⟩, -⟩ := c5 HG5.out; have S5 : w5.cell? ⟨w.heap.size, 0, none⟩ = some (.int .i64 x.a.k) ∧ w5.cell? ⟨w.heap.size, 1, none⟩ = some (.int .i64 x.a.w) ∧ w5.cell? ⟨w.heap.size, 2, none⟩ = some (.int .i64 x.a.c) ∧ w5.cell? ⟨w.heap.size, 3, none⟩ = some (.int .i64 x.a.s) ∧ w5.cell? ⟨w.heap.size, 4, none⟩ = some (.slice p n cap) ∧ w5.cell? ⟨gA, 0, none⟩ = some (.int .i64 y.a.k) ∧ w5.cell? ⟨gA, 1, none⟩ = some (.int .i64 y.a.w) ∧ w5.cell? ⟨gA, 2, none⟩ = some (.int .i64 y.a.c) ∧ w5.cell? ⟨gA, 3, none⟩ = some (.int .i64 y.a.s) ∧ w5.cell? ⟨gA, 4, none⟩ = some (.slice py ny ky) := ⟨t0, t1, t2, t3, t4, t5, t6, t7, t8, t9⟩; clear t0 t1 t2 t3 t4 t5 t6 t7 t8 t9
        (try dsimp only)
        refine hK.out _ _ (by exact S5) (fun hHeld => ?_)
        clear hK K
        (try simp only [Act.put, List.getElem_toArray, List.getElem_cons_succ, List.getElem_cons_zero, List.setIfInBounds_toArray, List.set_cons_zero, List.set_cons_succ])
        refine wpAnyH_take (i := 5) (v := ?vp9a5) rfl (by kernel_rfl) (by kernel_rfl) (by kernel_rfl) (fun _ _ _ h => h) (Or.inl ⟨by kernel_rfl, ?yp9a5⟩) (by assumption) ?rp9a5
        case yp9a5 => (intro wq hSw; (try dsimp only at hSw); go_simp; (try with_reducible rfl))
        (try simp only [Act.put, List.getElem_toArray, List.getElem_cons_succ, List.getElem_cons_zero, List.setIfInBounds_toArray, List.set_cons_zero, List.set_cons_succ])
        refine wpAnyH_take (i := 6) (v := ?vp9a6) rfl (by kernel_rfl) (by kernel_rfl) (by kernel_rfl) (fun _ _ _ h => h) (Or.inl ⟨by kernel_rfl, ?yp9a6⟩) (by assumption) ?rp9a6
        case yp9a6 => (intro wq hSw; (try dsimp only at hSw); go_simp; (try with_reducible rfl))
        (try simp only [Act.put, List.getElem_toArray, List.getElem_cons_succ, List.getElem_cons_zero, List.setIfInBounds_toArray, List.set_cons_zero, List.set_cons_succ])
        refine wpAnyH_take (i := 7) (v := ?vp9a7) rfl (by kernel_rfl) (by kernel_rfl) (by kernel_rfl) (fun _ _ _ h => h) (Or.inl ⟨by kernel_rfl, ?yp9a7⟩) (by assumption) ?rp9a7
        case yp9a7 => (intro wq hSw; (try dsimp only at hSw); go_simp; (try with_reducible rfl))
        (try simp only [Act.put, List.getElem_toArray, List.getElem_cons_succ, List.getElem_cons_zero, List.setIfInBounds_toArray, List.set_cons_zero, List.set_cons_succ])
        refine wpAnyH_take (i := 9) (v := ?vp9a9) rfl (by kernel_rfl) (by kernel_rfl) (by kernel_rfl) (fun _ _ _ h => h) (Or.inl ⟨by kernel_rfl, ?yp9a9⟩) (by assumption) ?rp9a9
        case yp9a9 => (intro wq hSw; (try dsimp only at hSw); go_simp; (try with_reducible rfl))
        (try simp only [Act.put, List.getElem_toArray, List.getElem_cons_succ, List.getElem_cons_zero, List.setIfInBounds_toArray, List.set_cons_zero, List.set_cons_succ])
        refine wpAnyH_ready (rs := [8]) (by kernel_rfl) (by simp) ?_
        refine AllReadyH.cons rfl (fun K hK => ?_) AllReadyH.nil
        go_simp
        refine (lvs_k HKY5.out HSY.out).mono ?_
        rintro ex w6 ⟨hb, pa, la, ca, rfl, hla, hea⟩; have HB6 := Lib.hid ((HB5.out).trans (hb.mono (HB5.out).size)); have HQ6 := Lib.hid ((HQ5.out).next hb); have HG6 := Lib.hid ((HG5.out).next hb); have HKX6 := Lib.hid ((HKX5.out).next hb); have HKY6 := Lib.hid ((HKY5.out).next hb); have HA6 := Lib.hid hla; have HE6 := Lib.hid hea; clear hla hea; clear hb; obtain ⟨⟨t0, t1, t2, t3, t4⟩, -⟩ := c5 HQ6.out; obtain ⟨⟨t5, t6, t7, t8, t9⟩, -⟩ := c5 HG6.out; have S6 : w6.cell? ⟨w.heap.size, 0, none⟩ = some (.int .i64 x.a.k) ∧ w6.cell? ⟨w.heap.size, 1, none⟩ = some (.int .i64 x.a.w) ∧ w6.cell? ⟨w.heap.size, 2, none⟩ = some (.int .i64 x.a.c) ∧ w6.cell? ⟨w.heap.size, 3, none⟩ = some (.int .i64 x.a.s) ∧ w6.cell? ⟨w.heap.size, 4, none⟩ = some (.slice p n cap) ∧ w6.cell? ⟨gA, 0, none⟩ = some (.int .i64 y.a.k) ∧ w6.cell? ⟨gA, 1, none⟩ = some (.int .i64 y.a.w) ∧ w6.cell? ⟨gA, 2, none⟩ = some (.int .i64 y.a.c) ∧ w6.cell? ⟨gA, 3, none⟩ = some (.int .i64 y.a.s) ∧ w6.cell? ⟨gA, 4, none⟩ = some (.slice py ny ky) := ⟨t0, t1, t2, t3, t4, t5, t6, t7, t8, t9⟩; clear t0 t1 t2 t3 t4 t5 t6 t7 t8 t9
        (try dsimp only)
        refine hK.out _ _ (by exact S6) (fun hHeld => ?_)
        clear hK K
        (try simp only [Act.put, List.getElem_toArray, List.getElem_cons_succ, List.getElem_cons_zero, List.setIfInBounds_toArray, List.set_cons_zero, List.set_cons_succ])
        refine wpAnyH_ready (rs := [10]) (by kernel_rfl) (by simp) ?_
        refine AllReadyH.cons rfl (fun K hK => ?_) AllReadyH.nil
        go_simp
        refine (lvs_k HKX6.out HS.out).mono ?_
        rintro ex w7 ⟨hb, pb, lb, cb, rfl, hlb, heb⟩; have HB7 := Lib.hid ((HB6.out).trans (hb.mono (HB6.out).size)); have HQ7 := Lib.hid ((HQ6.out).next hb); have HG7 := Lib.hid ((HG6.out).next hb); have HKX7 := Lib.hid ((HKX6.out).next hb); have HKY7 := Lib.hid ((HKY6.out).next hb); have HA7 := Lib.hid (HA6.out.next hb); have HC7 := Lib.hid hlb; have HE7 := Lib.hid heb; clear hlb heb; clear hb; obtain ⟨⟨t0, t1, t2, t3, t4⟩, -⟩ := c5 HQ7.out; obtain ⟨⟨t5, t6, t7, t8, t9⟩, -⟩ := c5 HG7.out; have S7 : w7.cell? ⟨w.heap.size, 0, none⟩ = some (.int .i64 x.a.k) ∧ w7.cell? ⟨w.heap.size, 1, none⟩ = some (.int .i64 x.a.w) ∧ w7.cell? ⟨w.heap.size, 2, none⟩ = some (.int .i64 x.a.c) ∧ w7.cell? ⟨w.heap.size, 3, none⟩ = some (.int .i64 x.a.s) ∧ w7.cell? ⟨w.heap.size, 4, none⟩ = some (.slice p n cap) ∧ w7.cell? ⟨gA, 0, none⟩ = some (.int .i64 y.a.k) ∧ w7.cell? ⟨gA, 1, none⟩ = some (.int .i64 y.a.w) ∧ w7.cell? ⟨gA, 2, none⟩ = some (.int .i64 y.a.c) ∧ w7.cell? ⟨gA, 3, none⟩ = some (.int .i64 y.a.s) ∧ w7.cell? ⟨gA, 4, none⟩ = some (.slice py ny ky) := ⟨t0, t1, t2, t3, t4, t5, t6, t7, t8, t9⟩; clear t0 t1 t2 t3 t4 t5 t6 t7 t8 t9
        (try dsimp only)
        refine hK.out _ _ (by exact S7) (fun hHeld => ?_)
        clear hK K
        (try simp only [Act.put, List.getElem_toArray, List.getElem_cons_succ, List.getElem_cons_zero, List.setIfInBounds_toArray, List.set_cons_zero, List.set_cons_succ])
        refine wpAnyH_ready (rs := [11]) (by kernel_rfl) (by simp) ?_
        refine AllReadyH.cons rfl (fun K hK => ?_) AllReadyH.nil
        go_simp
        refine (ints_k (HE6.out.trans (HLV.out.trans HE7.out.symm)) HA7.out HC7.out (by rw [HE6.out]; exact small_len HSY.out)).mono ?_
        rintro ex w8 ⟨rfl, hb⟩; have HB8 := Lib.hid ((HB7.out).trans (hb.mono (HB7.out).size)); have HQ8 := Lib.hid ((HQ7.out).next hb); have HG8 := Lib.hid ((HG7.out).next hb); have HKX8 := Lib.hid ((HKX7.out).next hb); have HKY8 := Lib.hid ((HKY7.out).next hb); clear hb; obtain ⟨⟨t0, t1, t2, t3, t4⟩, -⟩ := c5 HQ8.out; obtain ⟨⟨t5, t6, t7, t8, t9⟩, -⟩ := c5 HG8.out; have S8 : w8.cell? ⟨w.heap.size, 0, none⟩ = some (.int .i64 x.a.k) ∧ w8.cell? ⟨w.heap.size, 1, none⟩ = some (.int .i64 x.a.w) ∧ w8.cell? ⟨w.heap.size, 2, none⟩ = some (.int .i64 x.a.c) ∧ w8.cell? ⟨w.heap.size, 3, none⟩ = some (.int .i64 x.a.s) ∧ w8.cell? ⟨w.heap.size, 4, none⟩ = some (.slice p n cap) ∧ w8.cell? ⟨gA, 0, none⟩ = some (.int .i64 y.a.k) ∧ w8.cell? ⟨gA, 1, none⟩ = some (.int .i64 y.a.w) ∧ w8.cell? ⟨gA, 2, none⟩ = some (.int .i64 y.a.c) ∧ w8.cell? ⟨gA, 3, none⟩ = some (.int .i64 y.a.s) ∧ w8.cell? ⟨gA, 4, none⟩ = some (.slice py ny ky) := ⟨t0, t1, t2, t3, t4, t5, t6, t7, t8, t9⟩; clear t0 t1 t2 t3 t4 t5 t6 t7 t8 t9
        (try dsimp only)
        refine hK.out _ _ (by exact S8) (fun hHeld => ?_)
        clear hK K
        (try simp only [Act.put, List.getElem_toArray, List.getElem_cons_succ, List.getElem_cons_zero, List.setIfInBounds_toArray, List.set_cons_zero, List.set_cons_succ])
        refine wpAnyH_take (i := 12) (v := ?vp9a12) rfl (by kernel_rfl) (by kernel_rfl) (by kernel_rfl) (fun _ _ _ h => h) (Or.inl ⟨by kernel_rfl, ?yp9a12⟩) (by assumption) ?rp9a12
        case yp9a12 => (intro wq hSw; (try dsimp only at hSw); go_simp; (try with_reducible rfl))
        (try simp only [Act.put, List.getElem_toArray, List.getElem_cons_succ, List.getElem_cons_zero, List.setIfInBounds_toArray, List.set_cons_zero, List.set_cons_succ])
        refine wpAnyH_take (i := 13) (v := ?vp9a13) rfl (by kernel_rfl) (by kernel_rfl) (by kernel_rfl) (fun _ _ _ h => h) (Or.inl ⟨by kernel_rfl, ?yp9a13⟩) (by assumption) ?rp9a13
        case yp9a13 => (intro wq hSw; (try dsimp only at hSw); go_simp; (try with_reducible rfl))
        (try simp only [Act.put, List.getElem_toArray, List.getElem_cons_succ, List.getElem_cons_zero, List.setIfInBounds_toArray, List.set_cons_zero, List.set_cons_succ])
        refine wpAnyH_take (i := 14) (v := ?vp9a14) rfl (by kernel_rfl) (by kernel_rfl) (by kernel_rfl) (fun _ _ _ h => h) (Or.inl ⟨by kernel_rfl, ?yp9a14⟩) (by assumption) ?rp9a14
        case yp9a14 => (intro wq hSw; (try dsimp only at hSw); go_simp; (try with_reducible rfl))
        (try simp only [Act.put, List.getElem_toArray, List.getElem_cons_succ, List.getElem_cons_zero, List.setIfInBounds_toArray, List.set_cons_zero, List.set_cons_succ])
        refine wpAnyH_done (by kernel_rfl) ?_ _
        refine NoPanic.normal ?_
        clear S4 S5 S6 S7 hHeld
        go_wp2_with fail
        go_meet
        exact ⟨rfl, HB8.out, HQ8.out⟩
    case rest =>
    obtain ⟨rfl, hB, hQ⟩ := hcut
    have HB2 := Lib.hid hB
    have HQ2 := Lib.hid hQ
    clear hB hQ HBM HQM HGM HKM HOK HY
    obtain ⟨w2, hw2⟩ : ∃ w1, w1 = wc := ⟨_, rfl⟩
    subst hw2
    obtain ⟨⟨b0, b1, b2, b3, b4⟩, -⟩ := c5 HQ2.out
    -- Grow
    go_upto_region 11 with fail
    have HC := Lib.hid (grow_ans  (w := w) (W := w2) a k yb HK.out HS.out HB2.out)
    obtain ⟨r, hr⟩ : ∃ r, r = growI x a k yb := ⟨_, rfl⟩
    rw [← hr] at HC
    obtain ⟨Y, er⟩ := r
    have HOK := Lib.hid (fun h0 : er = 0 => grow_ok9 HT.out HS.out.f HN5.out hr h0)
    clear hr
    go_wp2_with fail
    refine HC.out.mono ?_
    rintro e w3 ⟨y, py, ny, ky, rfl, hky, hy, hb⟩
    simp only at hy ⊢
    have HY := Lib.hid hy
    have HB3 := Lib.hid (HB2.out.trans (hb.mono HB2.out.size))
    have HQ3 := Lib.hid (HQ2.out.next hb)
    have HKY := Lib.hid hky
    clear hb hky hy HC b0 b1 b2 b3 b4 HB2 HQ2
    go_upto_region 12 with fail
    have hbA := HB3.out.alloc HB3.out.size (.cells #[.int .i64 y.a.k, .int .i64 y.a.w, .int .i64 y.a.c, .int .i64 y.a.s, .slice py ny ky] 24)
    have hqA := Blk.new w3 24 #[.int .i64 y.a.k, .int .i64 y.a.w, .int .i64 y.a.c, .int .i64 y.a.s, .slice py ny ky]
    have hqx := HQ3.out.alloc (.cells #[.int .i64 y.a.k, .int .i64 y.a.w, .int .i64 y.a.c, .int .i64 y.a.s, .slice py ny ky] 24)
    have hkA := HKY.out.alloc (.cells #[.int .i64 y.a.k, .int .i64 y.a.w, .int .i64 y.a.c, .int .i64 y.a.s, .slice py ny ky] 24)
    obtain ⟨wm, hv1⟩ : ∃ v1, v1 = w3.alloc (.cells #[.int .i64 y.a.k, .int .i64 y.a.w, .int .i64 y.a.c, .int .i64 y.a.s, .slice py ny ky] 24) := ⟨_, rfl⟩
    obtain ⟨gA, hgA⟩ : ∃ g, g = w3.heap.size := ⟨_, rfl⟩
    rw [← hv1] at hbA hqA hqx hkA ⊢
    rw [← hgA] at hqA ⊢
    have HGM := Lib.hid hqA
    have HBM := Lib.hid hbA
    have HQM := Lib.hid hqx
    have HKM := Lib.hid hkA.all
    clear hv1 hgA hbA hqA hqx hkA HB3 HQ3 HKY
    go_upto_region 12 with fail
    go_cut [100] (fun s wx => s = .bool false ∧ Below w.heap.size w wx ∧ Blk wx w.heap.size 24 #[.int .i64 x.a.k, .int .i64 x.a.w, .int .i64 x.a.c, .int .i64 x.a.s, .slice p n cap])
    case first =>
      by_cases h0 : er = 0
      rotate_left
      · have hne : (er == 0) = false := by simpa using h0
        clear h0
        have HBD := Lib.hid HBM.out.drew
        have HQD := Lib.hid HQM.out.drew
        refine wp_region_noPanic ?_
        refine wp_region_held_drew (S := fun _ => True) (by kernel_rfl) (by trivial) (fun hHeld => ?_)
        refine wpAnyH_take (i := 0) (v := ?vq12a0) rfl (by kernel_rfl) (by kernel_rfl) (by kernel_rfl) (fun _ _ _ h => h) (Or.inl ⟨by kernel_rfl, ?yq12a0⟩) (by assumption) ?rq12a0
        case yq12a0 => (intro wq hSw; (try dsimp only at hSw); go_simp; (try with_reducible rfl))
        (try simp only [Act.put, List.getElem_toArray, List.getElem_cons_zero, List.setIfInBounds_toArray, List.set_cons_zero, List.set_cons_succ])
        refine wpAnyH_take (i := 1) (v := ?vq12a1) rfl (by kernel_rfl) (by kernel_rfl) (by kernel_rfl) (fun _ _ _ h => h) (Or.inl ⟨by kernel_rfl, ?yq12a1⟩) (by assumption) ?rq12a1
        case yq12a1 => (intro wq hSw; (try dsimp only at hSw); go_simp; (try with_reducible rfl))
        (try simp only [Act.put, List.getElem_toArray, List.getElem_cons_succ, List.getElem_cons_zero, List.setIfInBounds_toArray, List.set_cons_zero, List.set_cons_succ])
        refine wpAnyH_take (i := 2) (v := ?vq12a2) rfl (by kernel_rfl) (by kernel_rfl) (by kernel_rfl) (fun _ _ _ h => h) (Or.inl ⟨by kernel_rfl, ?yq12a2⟩) (by assumption) ?rq12a2
        case yq12a2 => (intro wq hSw; (try dsimp only at hSw); go_simp; (try with_reducible rfl))
        (try simp only [Act.put, List.getElem_toArray, List.getElem_cons_succ, List.getElem_cons_zero, List.setIfInBounds_toArray, List.set_cons_zero, List.set_cons_succ])
        refine wpAnyH_take (i := 3) (v := undef) rfl (by kernel_rfl) (by kernel_rfl) (by kernel_rfl) (fun _ _ _ h => h) (Or.inr ⟨by kernel_rfl, rfl⟩) (by assumption) ?_
        (try simp only [Act.put, List.getElem_toArray, List.getElem_cons_succ, List.getElem_cons_zero, List.setIfInBounds_toArray, List.set_cons_zero, List.set_cons_succ])
        refine wpAnyH_take (i := 4) (v := undef) rfl (by kernel_rfl) (by kernel_rfl) (by kernel_rfl) (fun _ _ _ h => h) (Or.inr ⟨by kernel_rfl, rfl⟩) (by assumption) ?_
        (try simp only [Act.put, List.getElem_toArray, List.getElem_cons_succ, List.getElem_cons_zero, List.setIfInBounds_toArray, List.set_cons_zero, List.set_cons_succ])
        refine wpAnyH_take (i := 5) (v := undef) rfl (by kernel_rfl) (by kernel_rfl) (by kernel_rfl) (fun _ _ _ h => h) (Or.inr ⟨by kernel_rfl, rfl⟩) (by assumption) ?_
        (try simp only [Act.put, List.getElem_toArray, List.getElem_cons_succ, List.getElem_cons_zero, List.setIfInBounds_toArray, List.set_cons_zero, List.set_cons_succ])
        refine wpAnyH_take (i := 6) (v := undef) rfl (by kernel_rfl) (by kernel_rfl) (by kernel_rfl) (fun _ _ _ h => h) (Or.inr ⟨by kernel_rfl, rfl⟩) (by assumption) ?_
        (try simp only [Act.put, List.getElem_toArray, List.getElem_cons_succ, List.getElem_cons_zero, List.setIfInBounds_toArray, List.set_cons_zero, List.set_cons_succ])
        refine wpAnyH_take (i := 7) (v := undef) rfl (by kernel_rfl) (by kernel_rfl) (by kernel_rfl) (fun _ _ _ h => h) (Or.inr ⟨by kernel_rfl, rfl⟩) (by assumption) ?_
        (try simp only [Act.put, List.getElem_toArray, List.getElem_cons_succ, List.getElem_cons_zero, List.setIfInBounds_toArray, List.set_cons_zero, List.set_cons_succ])
        refine wpAnyH_take (i := 8) (v := undef) rfl (by kernel_rfl) (by kernel_rfl) (by kernel_rfl) (fun _ _ _ h => h) (Or.inr ⟨by kernel_rfl, rfl⟩) (by assumption) ?_
        (try simp only [Act.put, List.getElem_toArray, List.getElem_cons_succ, List.getElem_cons_zero, List.setIfInBounds_toArray, List.set_cons_zero, List.set_cons_succ])
        refine wpAnyH_take (i := 9) (v := undef) rfl (by kernel_rfl) (by kernel_rfl) (by kernel_rfl) (fun _ _ _ h => h) (Or.inr ⟨by kernel_rfl, rfl⟩) (by assumption) ?_
        (try simp only [Act.put, List.getElem_toArray, List.getElem_cons_succ, List.getElem_cons_zero, List.setIfInBounds_toArray, List.set_cons_zero, List.set_cons_succ])
        refine wpAnyH_take (i := 10) (v := undef) rfl (by kernel_rfl) (by kernel_rfl) (by kernel_rfl) (fun _ _ _ h => h) (Or.inr ⟨by kernel_rfl, rfl⟩) (by assumption) ?_
        (try simp only [Act.put, List.getElem_toArray, List.getElem_cons_succ, List.getElem_cons_zero, List.setIfInBounds_toArray, List.set_cons_zero, List.set_cons_succ])
        refine wpAnyH_take (i := 11) (v := undef) rfl (by kernel_rfl) (by kernel_rfl) (by kernel_rfl) (fun _ _ _ h => h) (Or.inr ⟨by kernel_rfl, rfl⟩) (by assumption) ?_
        (try simp only [Act.put, List.getElem_toArray, List.getElem_cons_succ, List.getElem_cons_zero, List.setIfInBounds_toArray, List.set_cons_zero, List.set_cons_succ])
        refine wpAnyH_take (i := 12) (v := undef) rfl (by kernel_rfl) (by kernel_rfl) (by kernel_rfl) (fun _ _ _ h => h) (Or.inr ⟨by kernel_rfl, rfl⟩) (by assumption) ?_
        (try simp only [Act.put, List.getElem_toArray, List.getElem_cons_succ, List.getElem_cons_zero, List.setIfInBounds_toArray, List.set_cons_zero, List.set_cons_succ])
        refine wpAnyH_take (i := 13) (v := undef) rfl (by kernel_rfl) (by kernel_rfl) (by kernel_rfl) (fun _ _ _ h => h) (Or.inr ⟨by kernel_rfl, rfl⟩) (by assumption) ?_
        (try simp only [Act.put, List.getElem_toArray, List.getElem_cons_succ, List.getElem_cons_zero, List.setIfInBounds_toArray, List.set_cons_zero, List.set_cons_succ])
        refine wpAnyH_take (i := 14) (v := ?vq12a14) rfl (by kernel_rfl) (by kernel_rfl) (by kernel_rfl) (fun _ _ _ h => h) (Or.inl ⟨by kernel_rfl, ?yq12a14⟩) (by assumption) ?rq12a14
        case yq12a14 => (intro wq hSw; (try dsimp only at hSw); go_simp; (try with_reducible rfl))
        (try simp only [Act.put, List.getElem_toArray, List.getElem_cons_succ, List.getElem_cons_zero, List.setIfInBounds_toArray, List.set_cons_zero, List.set_cons_succ])
        refine wpAnyH_done (by kernel_rfl) ?_ _
        refine NoPanic.normal ?_
        go_wp2_with fail
        go_meet
        exact ⟨rfl, HBD.out, HQD.out⟩
      · obtain ⟨hty, hsy, hlv⟩ := HOK.out h0
        subst h0
        have hyy := HY.out
        rw [if_pos rfl] at hyy
        subst hyy
        have HTY := Lib.hid hty
        have HSY := Lib.hid hsy
        have HLV := Lib.hid hlv
        have HKX4 := Lib.hid (HK.out.next HBM.out).all
        have HQ4 := HQM
        have HG4 := HGM
        have HB4 := HBM
        have HKY4 := HKM
        clear hty hsy hlv HOK HY HQM HGM HBM HKM
        have S4 : wm.cell? ⟨w.heap.size, 0, none⟩ = some (.int .i64 x.a.k) ∧ wm.cell? ⟨w.heap.size, 1, none⟩ = some (.int .i64 x.a.w) ∧ wm.cell? ⟨w.heap.size, 2, none⟩ = some (.int .i64 x.a.c) ∧ wm.cell? ⟨w.heap.size, 3, none⟩ = some (.int .i64 x.a.s) ∧ wm.cell? ⟨w.heap.size, 4, none⟩ = some (.slice p n cap) ∧ wm.cell? ⟨gA, 0, none⟩ = some (.int .i64 y.a.k) ∧ wm.cell? ⟨gA, 1, none⟩ = some (.int .i64 y.a.w) ∧ wm.cell? ⟨gA, 2, none⟩ = some (.int .i64 y.a.c) ∧ wm.cell? ⟨gA, 3, none⟩ = some (.int .i64 y.a.s) ∧ wm.cell? ⟨gA, 4, none⟩ = some (.slice py ny ky) := by obtain ⟨⟨t0, t1, t2, t3, t4⟩, -⟩ := c5 HQ4.out; obtain ⟨⟨t5, t6, t7, t8, t9⟩, -⟩ := c5 HG4.out; exact ⟨t0, t1, t2, t3, t4, t5, t6, t7, t8, t9⟩
        refine wp_region_noPanic ?_
        refine wp_region_held_drew (S := fun wx => wx.cell? ⟨w.heap.size, 0, none⟩ = some (.int .i64 x.a.k) ∧ wx.cell? ⟨w.heap.size, 1, none⟩ = some (.int .i64 x.a.w) ∧ wx.cell? ⟨w.heap.size, 2, none⟩ = some (.int .i64 x.a.c) ∧ wx.cell? ⟨w.heap.size, 3, none⟩ = some (.int .i64 x.a.s) ∧ wx.cell? ⟨w.heap.size, 4, none⟩ = some (.slice p n cap) ∧ wx.cell? ⟨gA, 0, none⟩ = some (.int .i64 y.a.k) ∧ wx.cell? ⟨gA, 1, none⟩ = some (.int .i64 y.a.w) ∧ wx.cell? ⟨gA, 2, none⟩ = some (.int .i64 y.a.c) ∧ wx.cell? ⟨gA, 3, none⟩ = some (.int .i64 y.a.s) ∧ wx.cell? ⟨gA, 4, none⟩ = some (.slice py ny ky)) (by kernel_rfl) (by exact S4) (fun hHeld => ?_)
        refine wpAnyH_take (i := 0) (v := ?vp12a0) rfl (by kernel_rfl) (by kernel_rfl) (by kernel_rfl) (fun _ _ _ h => h) (Or.inl ⟨by kernel_rfl, ?yp12a0⟩) (by assumption) ?rp12a0
        case yp12a0 => (intro wq hSw; (try dsimp only at hSw); go_simp; (try with_reducible rfl))
        (try simp only [Act.put, List.getElem_toArray, List.getElem_cons_zero, List.setIfInBounds_toArray, List.set_cons_zero, List.set_cons_succ])
        refine wpAnyH_take (i := 1) (v := ?vp12a1) rfl (by kernel_rfl) (by kernel_rfl) (by kernel_rfl) (fun _ _ _ h => h) (Or.inl ⟨by kernel_rfl, ?yp12a1⟩) (by assumption) ?rp12a1
        case yp12a1 => (intro wq hSw; (try dsimp only at hSw); go_simp; (try with_reducible rfl))
        (try simp only [Act.put, List.getElem_toArray, List.getElem_cons_succ, List.getElem_cons_zero, List.setIfInBounds_toArray, List.set_cons_zero, List.set_cons_succ])
        refine wpAnyH_take (i := 2) (v := ?vp12a2) rfl (by kernel_rfl) (by kernel_rfl) (by kernel_rfl) (fun _ _ _ h => h) (Or.inl ⟨by kernel_rfl, ?yp12a2⟩) (by assumption) ?rp12a2
        case yp12a2 => (intro wq hSw; (try dsimp only at hSw); go_simp; (try with_reducible rfl))
        (try simp only [Act.put, List.getElem_toArray, List.getElem_cons_succ, List.getElem_cons_zero, List.setIfInBounds_toArray, List.set_cons_zero, List.set_cons_succ])
        refine wpAnyH_take (i := 3) (v := ?vp12a3) rfl (by kernel_rfl) (by kernel_rfl) (by kernel_rfl) (fun _ _ _ h => h) (Or.inl ⟨by kernel_rfl, ?yp12a3⟩) (by assumption) ?rp12a3
        case yp12a3 => (intro wq hSw; (try dsimp only at hSw); go_simp; (try with_reducible rfl))
        (try simp only [Act.put, List.getElem_toArray, List.getElem_cons_succ, List.getElem_cons_zero, List.setIfInBounds_toArray, List.set_cons_zero, List.set_cons_succ])
        refine wpAnyH_ready (rs := [4]) (by kernel_rfl) (by simp) ?_
        refine AllReadyH.cons rfl (fun K hK => ?_) AllReadyH.nil
        go_simp
        refine (chk_k (W := wm.drew) HKY4.out.drew HSY.out HTY.out).mono ?_
        rintro ex w5 ⟨rfl, hb⟩; have HB5 := Lib.hid ((HB4.out.drew).trans (hb.mono (HB4.out.drew).size)); have HQ5 := Lib.hid ((HQ4.out.drew).next hb); have HG5 := Lib.hid ((HG4.out.drew).next hb); have HKX5 := Lib.hid ((HKX4.out.drew).next hb); have HKY5 := Lib.hid ((HKY4.out.drew).next hb); clear hb; obtain ⟨⟨t0, t1, t2, t3, t4⟩, -⟩ := c5 HQ5.out; obtain ⟨⟨t5, t6, t7, t8, t9⟩, -⟩ := c5 HG5.out; have S5 : w5.cell? ⟨w.heap.size, 0, none⟩ = some (.int .i64 x.a.k) ∧ w5.cell? ⟨w.heap.size, 1, none⟩ = some (.int .i64 x.a.w) ∧ w5.cell? ⟨w.heap.size, 2, none⟩ = some (.int .i64 x.a.c) ∧ w5.cell? ⟨w.heap.size, 3, none⟩ = some (.int .i64 x.a.s) ∧ w5.cell? ⟨w.heap.size, 4, none⟩ = some (.slice p n cap) ∧ w5.cell? ⟨gA, 0, none⟩ = some (.int .i64 y.a.k) ∧ w5.cell? ⟨gA, 1, none⟩ = some (.int .i64 y.a.w) ∧ w5.cell? ⟨gA, 2, none⟩ = some (.int .i64 y.a.c) ∧ w5.cell? ⟨gA, 3, none⟩ = some (.int .i64 y.a.s) ∧ w5.cell? ⟨gA, 4, none⟩ = some (.slice py ny ky) := ⟨t0, t1, t2, t3, t4, t5, t6, t7, t8, t9⟩; clear t0 t1 t2 t3 t4 t5 t6 t7 t8 t9
        (try dsimp only)
        refine hK.out _ _ (by exact S5) (fun hHeld => ?_)
        clear hK K
        (try simp only [Act.put, List.getElem_toArray, List.getElem_cons_succ, List.getElem_cons_zero, List.setIfInBounds_toArray, List.set_cons_zero, List.set_cons_succ])
        refine wpAnyH_take (i := 5) (v := ?vp12a5) rfl (by kernel_rfl) (by kernel_rfl) (by kernel_rfl) (fun _ _ _ h => h) (Or.inl ⟨by kernel_rfl, ?yp12a5⟩) (by assumption) ?rp12a5
        case yp12a5 => (intro wq hSw; (try dsimp only at hSw); go_simp; (try with_reducible rfl))
        (try simp only [Act.put, List.getElem_toArray, List.getElem_cons_succ, List.getElem_cons_zero, List.setIfInBounds_toArray, List.set_cons_zero, List.set_cons_succ])
        refine wpAnyH_take (i := 6) (v := ?vp12a6) rfl (by kernel_rfl) (by kernel_rfl) (by kernel_rfl) (fun _ _ _ h => h) (Or.inl ⟨by kernel_rfl, ?yp12a6⟩) (by assumption) ?rp12a6
        case yp12a6 => (intro wq hSw; (try dsimp only at hSw); go_simp; (try with_reducible rfl))
        (try simp only [Act.put, List.getElem_toArray, List.getElem_cons_succ, List.getElem_cons_zero, List.setIfInBounds_toArray, List.set_cons_zero, List.set_cons_succ])
        refine wpAnyH_take (i := 7) (v := ?vp12a7) rfl (by kernel_rfl) (by kernel_rfl) (by kernel_rfl) (fun _ _ _ h => h) (Or.inl ⟨by kernel_rfl, ?yp12a7⟩) (by assumption) ?rp12a7
        case yp12a7 => (intro wq hSw; (try dsimp only at hSw); go_simp; (try with_reducible rfl))
        (try simp only [Act.put, List.getElem_toArray, List.getElem_cons_succ, List.getElem_cons_zero, List.setIfInBounds_toArray, List.set_cons_zero, List.set_cons_succ])
        refine wpAnyH_take (i := 9) (v := ?vp12a9) rfl (by kernel_rfl) (by kernel_rfl) (by kernel_rfl) (fun _ _ _ h => h) (Or.inl ⟨by kernel_rfl, ?yp12a9⟩) (by assumption) ?rp12a9
        case yp12a9 => (intro wq hSw; (try dsimp only at hSw); go_simp; (try with_reducible rfl))
        (try simp only [Act.put, List.getElem_toArray, List.getElem_cons_succ, List.getElem_cons_zero, List.setIfInBounds_toArray, List.set_cons_zero, List.set_cons_succ])
        refine wpAnyH_ready (rs := [8]) (by kernel_rfl) (by simp) ?_
        refine AllReadyH.cons rfl (fun K hK => ?_) AllReadyH.nil
        go_simp
        refine (lvs_k HKY5.out HSY.out).mono ?_
        rintro ex w6 ⟨hb, pa, la, ca, rfl, hla, hea⟩; have HB6 := Lib.hid ((HB5.out).trans (hb.mono (HB5.out).size)); have HQ6 := Lib.hid ((HQ5.out).next hb); have HG6 := Lib.hid ((HG5.out).next hb); have HKX6 := Lib.hid ((HKX5.out).next hb); have HKY6 := Lib.hid ((HKY5.out).next hb); have HA6 := Lib.hid hla; have HE6 := Lib.hid hea; clear hla hea; clear hb; obtain ⟨⟨t0, t1, t2, t3, t4⟩, -⟩ := c5 HQ6.out; obtain ⟨⟨t5, t6, t7, t8, t9⟩, -⟩ := c5 HG6.out; have S6 : w6.cell? ⟨w.heap.size, 0, none⟩ = some (.int .i64 x.a.k) ∧ w6.cell? ⟨w.heap.size, 1, none⟩ = some (.int .i64 x.a.w) ∧ w6.cell? ⟨w.heap.size, 2, none⟩ = some (.int .i64 x.a.c) ∧ w6.cell? ⟨w.heap.size, 3, none⟩ = some (.int .i64 x.a.s) ∧ w6.cell? ⟨w.heap.size, 4, none⟩ = some (.slice p n cap) ∧ w6.cell? ⟨gA, 0, none⟩ = some (.int .i64 y.a.k) ∧ w6.cell? ⟨gA, 1, none⟩ = some (.int .i64 y.a.w) ∧ w6.cell? ⟨gA, 2, none⟩ = some (.int .i64 y.a.c) ∧ w6.cell? ⟨gA, 3, none⟩ = some (.int .i64 y.a.s) ∧ w6.cell? ⟨gA, 4, none⟩ = some (.slice py ny ky) := ⟨t0, t1, t2, t3, t4, t5, t6, t7, t8, t9⟩; clear t0 t1 t2 t3 t4 t5 t6 t7 t8 t9
        (try dsimp only)
        refine hK.out _ _ (by exact S6) (fun hHeld => ?_)
        clear hK K
        (try simp only [Act.put, List.getElem_toArray, List.getElem_cons_succ, List.getElem_cons_zero, List.setIfInBounds_toArray, List.set_cons_zero, List.set_cons_succ])
        refine wpAnyH_ready (rs := [10]) (by kernel_rfl) (by simp) ?_
        refine AllReadyH.cons rfl (fun K hK => ?_) AllReadyH.nil
        go_simp
        refine (lvs_k HKX6.out HS.out).mono ?_
        rintro ex w7 ⟨hb, pb, lb, cb, rfl, hlb, heb⟩; have HB7 := Lib.hid ((HB6.out).trans (hb.mono (HB6.out).size)); have HQ7 := Lib.hid ((HQ6.out).next hb); have HG7 := Lib.hid ((HG6.out).next hb); have HKX7 := Lib.hid ((HKX6.out).next hb); have HKY7 := Lib.hid ((HKY6.out).next hb); have HA7 := Lib.hid (HA6.out.next hb); have HC7 := Lib.hid hlb; have HE7 := Lib.hid heb; clear hlb heb; clear hb; obtain ⟨⟨t0, t1, t2, t3, t4⟩, -⟩ := c5 HQ7.out; obtain ⟨⟨t5, t6, t7, t8, t9⟩, -⟩ := c5 HG7.out; have S7 : w7.cell? ⟨w.heap.size, 0, none⟩ = some (.int .i64 x.a.k) ∧ w7.cell? ⟨w.heap.size, 1, none⟩ = some (.int .i64 x.a.w) ∧ w7.cell? ⟨w.heap.size, 2, none⟩ = some (.int .i64 x.a.c) ∧ w7.cell? ⟨w.heap.size, 3, none⟩ = some (.int .i64 x.a.s) ∧ w7.cell? ⟨w.heap.size, 4, none⟩ = some (.slice p n cap) ∧ w7.cell? ⟨gA, 0, none⟩ = some (.int .i64 y.a.k) ∧ w7.cell? ⟨gA, 1, none⟩ = some (.int .i64 y.a.w) ∧ w7.cell? ⟨gA, 2, none⟩ = some (.int .i64 y.a.c) ∧ w7.cell? ⟨gA, 3, none⟩ = some (.int .i64 y.a.s) ∧ w7.cell? ⟨gA, 4, none⟩ = some (.slice py ny ky) := ⟨t0, t1, t2, t3, t4, t5, t6, t7, t8, t9⟩; clear t0 t1 t2 t3 t4 t5 t6 t7 t8 t9
        (try dsimp only)
        refine hK.out _ _ (by exact S7) (fun hHeld => ?_)
        clear hK K
        (try simp only [Act.put, List.getElem_toArray, List.getElem_cons_succ, List.getElem_cons_zero, List.setIfInBounds_toArray, List.set_cons_zero, List.set_cons_succ])
        refine wpAnyH_ready (rs := [11]) (by kernel_rfl) (by simp) ?_
        refine AllReadyH.cons rfl (fun K hK => ?_) AllReadyH.nil
        go_simp
        refine (ints_k (HE6.out.trans (HLV.out.trans HE7.out.symm)) HA7.out HC7.out (by rw [HE6.out]; exact small_len HSY.out)).mono ?_
        rintro ex w8 ⟨rfl, hb⟩; have HB8 := Lib.hid ((HB7.out).trans (hb.mono (HB7.out).size)); have HQ8 := Lib.hid ((HQ7.out).next hb); have HG8 := Lib.hid ((HG7.out).next hb); have HKX8 := Lib.hid ((HKX7.out).next hb); have HKY8 := Lib.hid ((HKY7.out).next hb); clear hb; obtain ⟨⟨t0, t1, t2, t3, t4⟩, -⟩ := c5 HQ8.out; obtain ⟨⟨t5, t6, t7, t8, t9⟩, -⟩ := c5 HG8.out; have S8 : w8.cell? ⟨w.heap.size, 0, none⟩ = some (.int .i64 x.a.k) ∧ w8.cell? ⟨w.heap.size, 1, none⟩ = some (.int .i64 x.a.w) ∧ w8.cell? ⟨w.heap.size, 2, none⟩ = some (.int .i64 x.a.c) ∧ w8.cell? ⟨w.heap.size, 3, none⟩ = some (.int .i64 x.a.s) ∧ w8.cell? ⟨w.heap.size, 4, none⟩ = some (.slice p n cap) ∧ w8.cell? ⟨gA, 0, none⟩ = some (.int .i64 y.a.k) ∧ w8.cell? ⟨gA, 1, none⟩ = some (.int .i64 y.a.w) ∧ w8.cell? ⟨gA, 2, none⟩ = some (.int .i64 y.a.c) ∧ w8.cell? ⟨gA, 3, none⟩ = some (.int .i64 y.a.s) ∧ w8.cell? ⟨gA, 4, none⟩ = some (.slice py ny ky) := ⟨t0, t1, t2, t3, t4, t5, t6, t7, t8, t9⟩; clear t0 t1 t2 t3 t4 t5 t6 t7 t8 t9
        (try dsimp only)
        refine hK.out _ _ (by exact S8) (fun hHeld => ?_)
        clear hK K
        (try simp only [Act.put, List.getElem_toArray, List.getElem_cons_succ, List.getElem_cons_zero, List.setIfInBounds_toArray, List.set_cons_zero, List.set_cons_succ])
        refine wpAnyH_take (i := 12) (v := ?vp12a12) rfl (by kernel_rfl) (by kernel_rfl) (by kernel_rfl) (fun _ _ _ h => h) (Or.inl ⟨by kernel_rfl, ?yp12a12⟩) (by assumption) ?rp12a12
        case yp12a12 => (intro wq hSw; (try dsimp only at hSw); go_simp; (try with_reducible rfl))
        (try simp only [Act.put, List.getElem_toArray, List.getElem_cons_succ, List.getElem_cons_zero, List.setIfInBounds_toArray, List.set_cons_zero, List.set_cons_succ])
        refine wpAnyH_take (i := 13) (v := ?vp12a13) rfl (by kernel_rfl) (by kernel_rfl) (by kernel_rfl) (fun _ _ _ h => h) (Or.inl ⟨by kernel_rfl, ?yp12a13⟩) (by assumption) ?rp12a13
        case yp12a13 => (intro wq hSw; (try dsimp only at hSw); go_simp; (try with_reducible rfl))
        (try simp only [Act.put, List.getElem_toArray, List.getElem_cons_succ, List.getElem_cons_zero, List.setIfInBounds_toArray, List.set_cons_zero, List.set_cons_succ])
        refine wpAnyH_take (i := 14) (v := ?vp12a14) rfl (by kernel_rfl) (by kernel_rfl) (by kernel_rfl) (fun _ _ _ h => h) (Or.inl ⟨by kernel_rfl, ?yp12a14⟩) (by assumption) ?rp12a14
        case yp12a14 => (intro wq hSw; (try dsimp only at hSw); go_simp; (try with_reducible rfl))
        (try simp only [Act.put, List.getElem_toArray, List.getElem_cons_succ, List.getElem_cons_zero, List.setIfInBounds_toArray, List.set_cons_zero, List.set_cons_succ])
        refine wpAnyH_done (by kernel_rfl) ?_ _
        refine NoPanic.normal ?_
        clear S4 S5 S6 S7 hHeld
        go_wp2_with fail
        go_meet
        exact ⟨rfl, HB8.out, HQ8.out⟩
    case rest =>
    obtain ⟨rfl, hB, hQ⟩ := hcut
    have HB2 := Lib.hid hB
    have HQ2 := Lib.hid hQ
    clear hB hQ HBM HQM HGM HKM HOK HY
    obtain ⟨w2, hw2⟩ : ∃ w1, w1 = wc := ⟨_, rfl⟩
    subst hw2
    obtain ⟨⟨b0, b1, b2, b3, b4⟩, -⟩ := c5 HQ2.out
    -- Remove
    go_upto_region 14 with fail
    have HC := Lib.hid (rem_k (W := w2) (Z := fun b => b < w.heap.size) a (HK.out.next HB2.out) HS.out (fun b h => Nat.lt_of_lt_of_le h HB2.out.size))
    obtain ⟨r, hr⟩ : ∃ r, r = removeD x a := ⟨_, rfl⟩
    rw [← hr] at HC
    obtain ⟨Y, er⟩ := r
    have HOK := Lib.hid (fun h0 : er = 0 => rem_ok HT.out HS.out.f HN5.out hr h0)
    clear hr
    go_wp2_with fail
    refine HC.out.mono ?_
    rintro e w3 ⟨y, py, ny, ky, rfl, hky, hy, hb⟩
    simp only at hy ⊢
    have HY := Lib.hid hy
    have HB3 := Lib.hid (HB2.out.trans (hb.mono HB2.out.size))
    have HQ3 := Lib.hid (HQ2.out.next hb)
    have HKY := Lib.hid hky
    clear hb hky hy HC b0 b1 b2 b3 b4 HB2 HQ2
    go_upto_region 15 with fail
    have hbA := HB3.out.alloc HB3.out.size (.cells #[.int .i64 y.a.k, .int .i64 y.a.w, .int .i64 y.a.c, .int .i64 y.a.s, .slice py ny ky] 24)
    have hqA := Blk.new w3 24 #[.int .i64 y.a.k, .int .i64 y.a.w, .int .i64 y.a.c, .int .i64 y.a.s, .slice py ny ky]
    have hqx := HQ3.out.alloc (.cells #[.int .i64 y.a.k, .int .i64 y.a.w, .int .i64 y.a.c, .int .i64 y.a.s, .slice py ny ky] 24)
    have hkA := HKY.out.alloc (.cells #[.int .i64 y.a.k, .int .i64 y.a.w, .int .i64 y.a.c, .int .i64 y.a.s, .slice py ny ky] 24)
    obtain ⟨wm, hv1⟩ : ∃ v1, v1 = w3.alloc (.cells #[.int .i64 y.a.k, .int .i64 y.a.w, .int .i64 y.a.c, .int .i64 y.a.s, .slice py ny ky] 24) := ⟨_, rfl⟩
    obtain ⟨gA, hgA⟩ : ∃ g, g = w3.heap.size := ⟨_, rfl⟩
    rw [← hv1] at hbA hqA hqx hkA ⊢
    rw [← hgA] at hqA ⊢
    have HGM := Lib.hid hqA
    have HBM := Lib.hid hbA
    have HQM := Lib.hid hqx
    have HKM := Lib.hid hkA.all
    clear hv1 hgA hbA hqA hqx hkA HB3 HQ3 HKY
    by_cases h0 : er = 0
    rotate_left
    · have hne : (er == 0) = false := by simpa using h0
      clear h0
      go_wp2_with fail
      refine (awake_c wm).mono ?_
      rintro e w5 ⟨rfl, hb⟩
      have HB5 := HBM.out.trans (hb.mono HBM.out.size)
      clear hb
      go_wp2_with fail
      go_ret
      exact ⟨rfl, HB5⟩
    obtain ⟨hty, hsy, hll⟩ := HOK.out h0
    subst h0
    have hyy := HY.out
    rw [if_pos rfl] at hyy
    subst hyy
    have HTY := Lib.hid hty
    have HSY := Lib.hid hsy
    have HLL := Lib.hid hll
    have HKX4 := Lib.hid (HK.out.next HBM.out).all
    have HQ4 := HQM
    have HG4 := HGM
    have HB4 := HBM
    have HKY4 := HKM
    clear hty hsy hll HOK HY HQM HGM HBM HKM
    go_upto_region 17 with fail
    have S4 : wm.cell? ⟨w.heap.size, 0, none⟩ = some (.int .i64 x.a.k) ∧ wm.cell? ⟨w.heap.size, 1, none⟩ = some (.int .i64 x.a.w) ∧ wm.cell? ⟨w.heap.size, 2, none⟩ = some (.int .i64 x.a.c) ∧ wm.cell? ⟨w.heap.size, 3, none⟩ = some (.int .i64 x.a.s) ∧ wm.cell? ⟨w.heap.size, 4, none⟩ = some (.slice p n cap) ∧ wm.cell? ⟨gA, 0, none⟩ = some (.int .i64 y.a.k) ∧ wm.cell? ⟨gA, 1, none⟩ = some (.int .i64 y.a.w) ∧ wm.cell? ⟨gA, 2, none⟩ = some (.int .i64 y.a.c) ∧ wm.cell? ⟨gA, 3, none⟩ = some (.int .i64 y.a.s) ∧ wm.cell? ⟨gA, 4, none⟩ = some (.slice py ny ky) := by obtain ⟨⟨t0, t1, t2, t3, t4⟩, -⟩ := c5 HQ4.out; obtain ⟨⟨t5, t6, t7, t8, t9⟩, -⟩ := c5 HG4.out; exact ⟨t0, t1, t2, t3, t4, t5, t6, t7, t8, t9⟩
    refine wp_region_noPanic ?_
    refine wp_region_held_drew (S := fun wx => wx.cell? ⟨w.heap.size, 0, none⟩ = some (.int .i64 x.a.k) ∧ wx.cell? ⟨w.heap.size, 1, none⟩ = some (.int .i64 x.a.w) ∧ wx.cell? ⟨w.heap.size, 2, none⟩ = some (.int .i64 x.a.c) ∧ wx.cell? ⟨w.heap.size, 3, none⟩ = some (.int .i64 x.a.s) ∧ wx.cell? ⟨w.heap.size, 4, none⟩ = some (.slice p n cap) ∧ wx.cell? ⟨gA, 0, none⟩ = some (.int .i64 y.a.k) ∧ wx.cell? ⟨gA, 1, none⟩ = some (.int .i64 y.a.w) ∧ wx.cell? ⟨gA, 2, none⟩ = some (.int .i64 y.a.c) ∧ wx.cell? ⟨gA, 3, none⟩ = some (.int .i64 y.a.s) ∧ wx.cell? ⟨gA, 4, none⟩ = some (.slice py ny ky)) (by kernel_rfl) (by exact S4) (fun hHeld => ?_)
    refine wpAnyH_take (i := 0) (v := ?vz0) rfl (by kernel_rfl) (by kernel_rfl) (by kernel_rfl) (fun _ _ _ h => h) (Or.inl ⟨by kernel_rfl, ?yz0⟩) (by assumption) ?rz0
    case yz0 => (intro wq hSw; (try dsimp only at hSw); go_simp; (try with_reducible rfl))
    (try simp only [Act.put, List.getElem_toArray, List.getElem_cons_zero, List.setIfInBounds_toArray, List.set_cons_zero, List.set_cons_succ])
    refine wpAnyH_ready (rs := [1]) (by kernel_rfl) (by simp) ?_
    refine AllReadyH.cons rfl (fun K hK => ?_) AllReadyH.nil
    go_simp
    refine (chk_k (W := wm.drew) HKY4.out.drew HSY.out HTY.out).mono ?_
    rintro ex w5 ⟨rfl, hb⟩; have HB5 := Lib.hid ((HB4.out.drew).trans (hb.mono (HB4.out.drew).size)); have HQ5 := Lib.hid ((HQ4.out.drew).next hb); have HG5 := Lib.hid ((HG4.out.drew).next hb); have HKX5 := Lib.hid ((HKX4.out.drew).next hb); have HKY5 := Lib.hid ((HKY4.out.drew).next hb); clear hb; obtain ⟨⟨t0, t1, t2, t3, t4⟩, -⟩ := c5 HQ5.out; obtain ⟨⟨t5, t6, t7, t8, t9⟩, -⟩ := c5 HG5.out; have S5 : w5.cell? ⟨w.heap.size, 0, none⟩ = some (.int .i64 x.a.k) ∧ w5.cell? ⟨w.heap.size, 1, none⟩ = some (.int .i64 x.a.w) ∧ w5.cell? ⟨w.heap.size, 2, none⟩ = some (.int .i64 x.a.c) ∧ w5.cell? ⟨w.heap.size, 3, none⟩ = some (.int .i64 x.a.s) ∧ w5.cell? ⟨w.heap.size, 4, none⟩ = some (.slice p n cap) ∧ w5.cell? ⟨gA, 0, none⟩ = some (.int .i64 y.a.k) ∧ w5.cell? ⟨gA, 1, none⟩ = some (.int .i64 y.a.w) ∧ w5.cell? ⟨gA, 2, none⟩ = some (.int .i64 y.a.c) ∧ w5.cell? ⟨gA, 3, none⟩ = some (.int .i64 y.a.s) ∧ w5.cell? ⟨gA, 4, none⟩ = some (.slice py ny ky) := ⟨t0, t1, t2, t3, t4, t5, t6, t7, t8, t9⟩; clear t0 t1 t2 t3 t4 t5 t6 t7 t8 t9
    (try dsimp only)
    refine hK.out _ _ (by exact S5) (fun hHeld => ?_)
    clear hK K
    (try simp only [Act.put, List.getElem_toArray, List.getElem_cons_succ, List.getElem_cons_zero, List.setIfInBounds_toArray, List.set_cons_zero, List.set_cons_succ])
    refine wpAnyH_take (i := 2) (v := ?vz2) rfl (by kernel_rfl) (by kernel_rfl) (by kernel_rfl) (fun _ _ _ h => h) (Or.inl ⟨by kernel_rfl, ?yz2⟩) (by assumption) ?rz2
    case yz2 => (intro wq hSw; (try dsimp only at hSw); go_simp; (try with_reducible rfl))
    (try simp only [Act.put, List.getElem_toArray, List.getElem_cons_succ, List.getElem_cons_zero, List.setIfInBounds_toArray, List.set_cons_zero, List.set_cons_succ])
    refine wpAnyH_take (i := 3) (v := ?vz3) rfl (by kernel_rfl) (by kernel_rfl) (by kernel_rfl) (fun _ _ _ h => h) (Or.inl ⟨by kernel_rfl, ?yz3⟩) (by assumption) ?rz3
    case yz3 => (intro wq hSw; (try dsimp only at hSw); go_simp; (try with_reducible rfl))
    (try simp only [Act.put, List.getElem_toArray, List.getElem_cons_succ, List.getElem_cons_zero, List.setIfInBounds_toArray, List.set_cons_zero, List.set_cons_succ])
    refine wpAnyH_take (i := 4) (v := ?vz4) rfl (by kernel_rfl) (by kernel_rfl) (by kernel_rfl) (fun _ _ _ h => h) (Or.inl ⟨by kernel_rfl, ?yz4⟩) (by assumption) ?rz4
    case yz4 => (intro wq hSw; (try dsimp only at hSw); go_simp; (try with_reducible rfl))
    (try simp only [Act.put, List.getElem_toArray, List.getElem_cons_succ, List.getElem_cons_zero, List.setIfInBounds_toArray, List.set_cons_zero, List.set_cons_succ])
    refine wpAnyH_take (i := 7) (v := ?vz7) rfl (by kernel_rfl) (by kernel_rfl) (by kernel_rfl) (fun _ _ _ h => h) (Or.inl ⟨by kernel_rfl, ?yz7⟩) (by assumption) ?rz7
    case yz7 => (intro wq hSw; (try dsimp only at hSw); go_simp; (try with_reducible rfl))
    (try simp only [Act.put, List.getElem_toArray, List.getElem_cons_succ, List.getElem_cons_zero, List.setIfInBounds_toArray, List.set_cons_zero, List.set_cons_succ])
    refine wpAnyH_ready (rs := [5]) (by kernel_rfl) (by simp) ?_
    refine AllReadyH.cons rfl (fun K hK => ?_) AllReadyH.nil
    go_simp
    refine (lvs_k HKY5.out HSY.out).mono ?_
    rintro ex w6 ⟨hb, pa, la, ca, rfl, -, hea⟩; have HB6 := Lib.hid ((HB5.out).trans (hb.mono (HB5.out).size)); have HQ6 := Lib.hid ((HQ5.out).next hb); have HG6 := Lib.hid ((HG5.out).next hb); have HKX6 := Lib.hid ((HKX5.out).next hb); have HKY6 := Lib.hid ((HKY5.out).next hb); have HE6 := Lib.hid hea; clear hea; obtain ⟨na, hna⟩ : ∃ n, n = la.length := ⟨_, rfl⟩; rw [← hna]; have HNA := Lib.hid hna; clear hna; clear hb; obtain ⟨⟨t0, t1, t2, t3, t4⟩, -⟩ := c5 HQ6.out; obtain ⟨⟨t5, t6, t7, t8, t9⟩, -⟩ := c5 HG6.out; have S6 : w6.cell? ⟨w.heap.size, 0, none⟩ = some (.int .i64 x.a.k) ∧ w6.cell? ⟨w.heap.size, 1, none⟩ = some (.int .i64 x.a.w) ∧ w6.cell? ⟨w.heap.size, 2, none⟩ = some (.int .i64 x.a.c) ∧ w6.cell? ⟨w.heap.size, 3, none⟩ = some (.int .i64 x.a.s) ∧ w6.cell? ⟨w.heap.size, 4, none⟩ = some (.slice p n cap) ∧ w6.cell? ⟨gA, 0, none⟩ = some (.int .i64 y.a.k) ∧ w6.cell? ⟨gA, 1, none⟩ = some (.int .i64 y.a.w) ∧ w6.cell? ⟨gA, 2, none⟩ = some (.int .i64 y.a.c) ∧ w6.cell? ⟨gA, 3, none⟩ = some (.int .i64 y.a.s) ∧ w6.cell? ⟨gA, 4, none⟩ = some (.slice py ny ky) := ⟨t0, t1, t2, t3, t4, t5, t6, t7, t8, t9⟩; clear t0 t1 t2 t3 t4 t5 t6 t7 t8 t9
    (try dsimp only)
    refine hK.out _ _ (by exact S6) (fun hHeld => ?_)
    clear hK K
    (try simp only [Act.put, List.getElem_toArray, List.getElem_cons_succ, List.getElem_cons_zero, List.setIfInBounds_toArray, List.set_cons_zero, List.set_cons_succ])
    refine wpAnyH_take (i := 6) (v := ?vz6) rfl (by kernel_rfl) (by kernel_rfl) (by kernel_rfl) (fun _ _ _ h => h) (Or.inl ⟨by kernel_rfl, ?yz6⟩) (by assumption) ?rz6
    case yz6 => (intro wq hSw; (try dsimp only at hSw); go_simp; (try with_reducible rfl))
    (try simp only [Act.put, List.getElem_toArray, List.getElem_cons_succ, List.getElem_cons_zero, List.setIfInBounds_toArray, List.set_cons_zero, List.set_cons_succ])
    refine wpAnyH_ready (rs := [8]) (by kernel_rfl) (by simp) ?_
    refine AllReadyH.cons rfl (fun K hK => ?_) AllReadyH.nil
    go_simp
    refine (lvs_k HKX6.out HS.out).mono ?_
    rintro ex w7 ⟨hb, pb, lb, cb, rfl, -, heb⟩; have HB7 := Lib.hid ((HB6.out).trans (hb.mono (HB6.out).size)); have HQ7 := Lib.hid ((HQ6.out).next hb); have HG7 := Lib.hid ((HG6.out).next hb); have HKX7 := Lib.hid ((HKX6.out).next hb); have HKY7 := Lib.hid ((HKY6.out).next hb); have HE7 := Lib.hid heb; clear heb; obtain ⟨nb, hnb⟩ : ∃ n, n = lb.length := ⟨_, rfl⟩; rw [← hnb]; have hnn : nb = na + 1 := (by (rw [hnb, HNA.out, HE7.out, HE6.out]; exact HLL.out.symm)); have hsm : nb ≤ 1048576 := (by (rw [hnb, HE7.out]; exact small_len HS.out)); have hwr : IntKind.i64.wrap ((nb : Int) - 1) = (na : Int) := (by (rw [IntWalk.i64_in _ (by omega)]; omega)); have hwn : IntKind.i64.wrap (na : Int) = (na : Int) := (by rw [IntWalk.i64_in _ (by omega)]); clear hnb; clear hb; obtain ⟨⟨t0, t1, t2, t3, t4⟩, -⟩ := c5 HQ7.out; obtain ⟨⟨t5, t6, t7, t8, t9⟩, -⟩ := c5 HG7.out; have S7 : w7.cell? ⟨w.heap.size, 0, none⟩ = some (.int .i64 x.a.k) ∧ w7.cell? ⟨w.heap.size, 1, none⟩ = some (.int .i64 x.a.w) ∧ w7.cell? ⟨w.heap.size, 2, none⟩ = some (.int .i64 x.a.c) ∧ w7.cell? ⟨w.heap.size, 3, none⟩ = some (.int .i64 x.a.s) ∧ w7.cell? ⟨w.heap.size, 4, none⟩ = some (.slice p n cap) ∧ w7.cell? ⟨gA, 0, none⟩ = some (.int .i64 y.a.k) ∧ w7.cell? ⟨gA, 1, none⟩ = some (.int .i64 y.a.w) ∧ w7.cell? ⟨gA, 2, none⟩ = some (.int .i64 y.a.c) ∧ w7.cell? ⟨gA, 3, none⟩ = some (.int .i64 y.a.s) ∧ w7.cell? ⟨gA, 4, none⟩ = some (.slice py ny ky) := ⟨t0, t1, t2, t3, t4, t5, t6, t7, t8, t9⟩; clear t0 t1 t2 t3 t4 t5 t6 t7 t8 t9
    (try dsimp only)
    refine hK.out _ _ (by exact S7) (fun hHeld => ?_)
    clear hK K
    (try simp only [Act.put, List.getElem_toArray, List.getElem_cons_succ, List.getElem_cons_zero, List.setIfInBounds_toArray, List.set_cons_zero, List.set_cons_succ])
    refine wpAnyH_take (i := 9) (v := ?vz9) rfl (by kernel_rfl) (by kernel_rfl) (by kernel_rfl) (fun _ _ _ h => h) (Or.inl ⟨by kernel_rfl, ?yz9⟩) (by assumption) ?rz9
    case yz9 => (intro wq hSw; (try dsimp only at hSw); go_simp; (try with_reducible rfl))
    (try simp only [Act.put, List.getElem_toArray, List.getElem_cons_succ, List.getElem_cons_zero, List.setIfInBounds_toArray, List.set_cons_zero, List.set_cons_succ])
    refine wpAnyH_take (i := 10) (v := ?vz10) rfl (by kernel_rfl) (by kernel_rfl) (by kernel_rfl) (fun _ _ _ h => h) (Or.inl ⟨by kernel_rfl, ?yz10⟩) (by assumption) ?rz10
    case yz10 => (intro wq hSw; (try dsimp only at hSw); go_simp; (try with_reducible rfl))
    (try simp only [Act.put, List.getElem_toArray, List.getElem_cons_succ, List.getElem_cons_zero, List.setIfInBounds_toArray, List.set_cons_zero, List.set_cons_succ])
    refine wpAnyH_take (i := 11) (v := ?vz11) rfl (by kernel_rfl) (by kernel_rfl) (by kernel_rfl) (fun _ _ _ h => h) (Or.inl ⟨by kernel_rfl, ?yz11⟩) (by assumption) ?rz11
    case yz11 => (intro wq hSw; (try dsimp only at hSw); go_simp; (try with_reducible rfl))
    (try simp only [Act.put, List.getElem_toArray, List.getElem_cons_succ, List.getElem_cons_zero, List.setIfInBounds_toArray, List.set_cons_zero, List.set_cons_succ])
    refine wpAnyH_take (i := 12) (v := ?vz12) rfl (by kernel_rfl) (by kernel_rfl) (by kernel_rfl) (fun _ _ _ h => h) (Or.inl ⟨by kernel_rfl, ?yz12⟩) (by assumption) ?rz12
    case yz12 => (intro wq hSw; (try dsimp only at hSw); go_simp; (try with_reducible rfl))
    (try simp only [Act.put, List.getElem_toArray, List.getElem_cons_succ, List.getElem_cons_zero, List.setIfInBounds_toArray, List.set_cons_zero, List.set_cons_succ])
    refine wpAnyH_take (i := 13) (v := ?vz13) rfl (by kernel_rfl) (by kernel_rfl) (by kernel_rfl) (fun _ _ _ h => h) (Or.inl ⟨by kernel_rfl, ?yz13⟩) (by assumption) ?rz13
    case yz13 => (intro wq hSw; (try dsimp only at hSw); go_simp; (try with_reducible rfl))
    (try simp only [Act.put, List.getElem_toArray, List.getElem_cons_succ, List.getElem_cons_zero, List.setIfInBounds_toArray, List.set_cons_zero, List.set_cons_succ])
    refine wpAnyH_ready (rs := [14]) (by kernel_rfl) (by simp) ?_
    refine AllReadyH.cons rfl (fun K hK => ?_) AllReadyH.nil
    go_simp
    refine (awake_c w7).mono ?_
    rintro ex w9 ⟨rfl, hb⟩; have HB9 := Lib.hid ((HB7.out).trans (hb.mono (HB7.out).size)); have HQ9 := Lib.hid ((HQ7.out).next hb); have HG9 := Lib.hid ((HG7.out).next hb); have HKX9 := Lib.hid ((HKX7.out).next hb); have HKY9 := Lib.hid ((HKY7.out).next hb); clear hb; obtain ⟨⟨t0, t1, t2, t3, t4⟩, -⟩ := c5 HQ9.out; obtain ⟨⟨t5, t6, t7, t8, t9⟩, -⟩ := c5 HG9.out; have S9 : w9.cell? ⟨w.heap.size, 0, none⟩ = some (.int .i64 x.a.k) ∧ w9.cell? ⟨w.heap.size, 1, none⟩ = some (.int .i64 x.a.w) ∧ w9.cell? ⟨w.heap.size, 2, none⟩ = some (.int .i64 x.a.c) ∧ w9.cell? ⟨w.heap.size, 3, none⟩ = some (.int .i64 x.a.s) ∧ w9.cell? ⟨w.heap.size, 4, none⟩ = some (.slice p n cap) ∧ w9.cell? ⟨gA, 0, none⟩ = some (.int .i64 y.a.k) ∧ w9.cell? ⟨gA, 1, none⟩ = some (.int .i64 y.a.w) ∧ w9.cell? ⟨gA, 2, none⟩ = some (.int .i64 y.a.c) ∧ w9.cell? ⟨gA, 3, none⟩ = some (.int .i64 y.a.s) ∧ w9.cell? ⟨gA, 4, none⟩ = some (.slice py ny ky) := ⟨t0, t1, t2, t3, t4, t5, t6, t7, t8, t9⟩; clear t0 t1 t2 t3 t4 t5 t6 t7 t8 t9
    (try dsimp only)
    refine hK.out _ _ (by exact S9) (fun hHeld => ?_)
    clear hK K
    (try simp only [Act.put, List.getElem_toArray, List.getElem_cons_succ, List.getElem_cons_zero, List.setIfInBounds_toArray, List.set_cons_zero, List.set_cons_succ])
    refine wpAnyH_take (i := 15) (v := ?vz15) rfl (by kernel_rfl) (by kernel_rfl) (by kernel_rfl) (fun _ _ _ h => h) (Or.inl ⟨by kernel_rfl, ?yz15⟩) (by assumption) ?rz15
    case yz15 => (intro wq hSw; (try dsimp only at hSw); go_simp; (try with_reducible rfl))
    (try simp only [Act.put, List.getElem_toArray, List.getElem_cons_succ, List.getElem_cons_zero, List.setIfInBounds_toArray, List.set_cons_zero, List.set_cons_succ])
    refine wpAnyH_take (i := 16) (v := ?vz16) rfl (by kernel_rfl) (by kernel_rfl) (by kernel_rfl) (fun _ _ _ h => h) (Or.inl ⟨by kernel_rfl, ?yz16⟩) (by assumption) ?rz16
    case yz16 => (intro wq hSw; (try dsimp only at hSw); go_simp; (try with_reducible rfl))
    (try simp only [Act.put, List.getElem_toArray, List.getElem_cons_succ, List.getElem_cons_zero, List.setIfInBounds_toArray, List.set_cons_zero, List.set_cons_succ])
    refine wpAnyH_done (by kernel_rfl) ?_ _
    refine NoPanic.normal ?_
    go_wp2_with fail
    go_ret
    exact ⟨rfl, HB9.out⟩
end Go.Proofs.Ytbbmfpdlkogkfaa.Co
end
section
namespace Go.Proofs.Ytbbmfpdlkogkfaa.Co
open Go.RowKit Go.WideShapes Go.ChangeShapes Go.ChangeAt Go.Deep
theorem cs_int : Try.prog.cellsOf 3 = 1 := by kernel_rfl
theorem cs_con : Try.prog.cellsOf 24 = 5 := by kernel_rfl
theorem cs_cons : Try.prog.cellsOf 22 = 1 := by kernel_rfl
theorem i64_of_wf {a : Int} (h : (Lit.int .i64 a).wf = true) : I64 a := by
  simp only [Lit.wf, decide_eq_true_eq, Bool.and_eq_true] at h
  have h1 : IntKind.i64.min = -9223372036854775808 := rfl
  have h2 : IntKind.i64.max = 9223372036854775807 := rfl
  unfold I64; omega
theorem bytes_con : Try.prog.bytesOf 24 = 56 := by kernel_rfl
section
variable {H : Type} {enc : TypeId × Value → H} {w : World}
theorem weights_all {P : Program} {e : TypeId} : ∀ {l : List (DataW H)} {d : DataW H}, d ∈ l → ∀ n ∈ d.weights P e, n ∈ DataW.weightsAll P e l := by
  intro l
  induction l with
  | nil => intro d h; cases h
  | cons y r ih =>
    intro d h n hn
    simp only [DataW.weightsAll, List.mem_append]
    rcases List.mem_cons.1 h with rfl | h
    · exact .inl hn
    · exact .inr (ih h n hn)
theorem open_con : ∀ (fuel : Nat) (cs : List Value) (x : DataW H × List MemPlace), DataW.trod enc Try.prog w 0 (fun _ => true) true fuel 24 cs = some x → (∀ n ∈ x.1.weights Try.prog 24, n ≤ 140737488355328) →
    ∃ (y : Con) (s : Value), cs = encC y.a s ∧ KV w (fun b => b < w.heap.size) y.ks s ∧ y.a.wide := by
  intro fuel
  induction fuel using Nat.strongRecOn with
  | ind fuel ih =>
    intro cs x h hwt
    have hcl : cs.length = 5 := by
      obtain ⟨_, _, _, _, hl, _⟩ := DataW.trod_struct Try.underlying24 h
      rw [hl, cs_con]
    match cs, hcl with
    | [c0, c1, c2, c3, c4], _ =>
      obtain ⟨xs, n, hfn, hx, _, hlen, hg⟩ := DataW.trod_struct Try.underlying24 h
      obtain ⟨y0, e0⟩ : ∃ y, xs[0]? = some y := ⟨_, List.getElem?_eq_getElem (by rw [hlen]; decide)⟩
      have k0 : DataW.trod enc Try.prog w 0 (fun _ => true) true n 3 [c0] = some y0 := by
        have h := (hg 0 _ rfl).trans e0
        simpa [cs_int] using h
      obtain ⟨y1, e1⟩ : ∃ y, xs[1]? = some y := ⟨_, List.getElem?_eq_getElem (by rw [hlen]; decide)⟩
      have k1 : DataW.trod enc Try.prog w 0 (fun _ => true) true n 3 [c1] = some y1 := by
        have h := (hg 1 _ rfl).trans e1
        simpa [cs_int] using h
      obtain ⟨y2, e2⟩ : ∃ y, xs[2]? = some y := ⟨_, List.getElem?_eq_getElem (by rw [hlen]; decide)⟩
      have k2 : DataW.trod enc Try.prog w 0 (fun _ => true) true n 3 [c2] = some y2 := by
        have h := (hg 2 _ rfl).trans e2
        simpa [cs_int] using h
      obtain ⟨y3, e3⟩ : ∃ y, xs[3]? = some y := ⟨_, List.getElem?_eq_getElem (by rw [hlen]; decide)⟩
      have k3 : DataW.trod enc Try.prog w 0 (fun _ => true) true n 3 [c3] = some y3 := by
        have h := (hg 3 _ rfl).trans e3
        simpa [cs_int] using h
      obtain ⟨y4, e4⟩ : ∃ y, xs[4]? = some y := ⟨_, List.getElem?_eq_getElem (by rw [hlen]; decide)⟩
      have k4 : DataW.trod enc Try.prog w 0 (fun _ => true) true n 22 [c4] = some y4 := by
        have h := (hg 4 _ rfl).trans e4
        simpa [cs_cons] using h
      obtain ⟨z0, q0, _, w0⟩ := DataW.trod_int Try.underlying3 k0
      simp only [List.cons.injEq, and_true] at q0
      obtain ⟨z1, q1, _, w1⟩ := DataW.trod_int Try.underlying3 k1
      simp only [List.cons.injEq, and_true] at q1
      obtain ⟨z2, q2, _, w2⟩ := DataW.trod_int Try.underlying3 k2
      simp only [List.cons.injEq, and_true] at q2
      obtain ⟨z3, q3, _, w3⟩ := DataW.trod_int Try.underlying3 k3
      simp only [List.cons.injEq, and_true] at q3
      subst q0 q1 q2 q3
      have hw4 : ∀ n ∈ y4.1.weights Try.prog 22, n ≤ 140737488355328 := fun n hn => hwt n (by
        rw [hx]
        simp only [DataW.weights, Try.underlying24]
        exact DataW.weights_mem_each (j := 4) (t := 22) (d := y4.1) rfl (by rw [List.getElem?_map, e4]; rfl) n hn)
      have hwide : I64 z0 ∧ I64 z1 ∧ I64 z2 ∧ I64 z3 := ⟨i64_of_wf w0, i64_of_wf w1, i64_of_wf w2, i64_of_wf w3⟩
      rcases DataW.trod_slice Try.underlying22 k4 with ⟨hcs, _⟩ | ⟨a, len, cap, elems, rest, n', hn', hcs, hy4, _, hl, hm, hle, hel, _⟩
      · simp only [List.cons.injEq, and_true] at hcs
        subst hcs
        exact ⟨.mk ⟨z0, z1, z2, z3⟩ [], .slice none 0 0, rfl, KV.nil w _ none 0, hwide⟩
      · simp only [List.cons.injEq, and_true] at hcs
        subst hcs
        have hy4' : y4.1 = .slice (elems.map (·.1)) (rest.map (·.1)) := by rw [hy4]
        have hlen9' : len ≤ 2513169434917 := by
          have := hw4 _ (by rw [hy4']; simp only [DataW.weights, Try.underlying22]; exact List.mem_cons_self ..)
          rw [bytes_con, List.length_map, hle] at this
          omega
        have hwe : ∀ e ∈ elems, ∀ n ∈ e.1.weights Try.prog 24, n ≤ 140737488355328 := fun e he n hn => hw4 n (by
          rw [hy4']
          simp only [DataW.weights, Try.underlying22]
          exact List.mem_cons_of_mem _ (List.mem_append.2 (.inl (weights_all (List.mem_map.2 ⟨e, he, rfl⟩) n hn))))
        have hex : ∀ i : Nat, ∃ p : Con × Value, i < len → (∀ (k : Nat) (u : Value), (encC p.1.a p.2)[k]? = some u → w.cell? (a.add (i * 5 + k)) = some u) ∧ KV w (fun b => b < w.heap.size) p.1.ks p.2 ∧ p.1.a.wide := fun i => by
          by_cases hi : i < len
          · have h9 := hel i hi
            obtain ⟨e9, he9⟩ : ∃ e, elems[i]? = some e := ⟨_, List.getElem?_eq_getElem (by omega)⟩
            rw [he9, Option.bind_eq_some_iff] at h9
            obtain ⟨cs', h10, h11⟩ := h9
            obtain ⟨y, s, rfl, h12, h13⟩ := ih n' (by omega) cs' e9 h11 (hwe e9 (List.mem_of_getElem? he9))
            rw [cs_con] at h10
            obtain ⟨_, hl5, hat⟩ := World.cells?_some h10
            refine ⟨(y, s), fun _ => ⟨fun k u hu => ?_, h12, h13⟩⟩
            have hk := (List.getElem?_eq_some_iff.1 hu).1
            rw [enc_len] at hk
            have h14 := hat k hk
            rw [← Go.Deep.add_add, h14]
            exact hu
          · exact ⟨(.mk D0 [], undef), fun h => absurd h hi⟩
        obtain ⟨f, hf⟩ := Classical.axiomOfChoice hex
        have hlist : ∀ (j : Nat) (x : Con), ((List.range len).map fun i => (f i).1)[j]? = some x → j < len ∧ x = (f j).1 := fun j x hx => by
          rw [List.getElem?_map] at hx
          have hj : j < len := by
            have := Option.map_eq_some_iff.1 hx
            obtain ⟨i, hi, _⟩ := this
            have := (List.getElem?_eq_some_iff.1 hi).1
            simpa using this
          rw [List.getElem?_range hj] at hx
          exact ⟨hj, (Option.some.inj hx).symm⟩
        have hlen9 : ((List.range len).map fun i => (f i).1).length = len := by simp
        refine ⟨.mk ⟨z0, z1, z2, z3⟩ ((List.range len).map fun i => (f i).1), .slice (some a) len cap, rfl, ?_, hwide⟩
        have := KV.mk (w := w) (Z := fun b => b < w.heap.size) ((List.range len).map fun i => (f i).1) (some a) cap (fun i => (f i).2) (by rw [hlen9]; omega) (by rw [hlen9]; exact hl) (fun j x hx => by
          obtain ⟨hj, rfl⟩ := hlist j x hx
          obtain ⟨h1, h2, h3⟩ := hf j hj
          have hc := h1 0 _ rfl
          have h0 := (hf 0 (by omega)).1 0 _ rfl
          rw [show 0 * 5 + 0 = 0 from rfl, show a.add 0 = a by unfold Addr.add; simp] at h0
          have ha : a = ⟨a.block, a.off, none⟩ := by
            have h8 : a.spot = none := World.cell?_spot h0
            obtain ⟨b, o, s⟩ := a
            simp only at h8
            subst h8; rfl
          have hlt := World.block_lt_of_cell? w _ h0
          refine ⟨a.block, a.off, by rw [← ha], hlt, hlt, h3, fun i u hu => ?_⟩
          have := h1 i u hu
          rw [ha, Addr.add_lit] at this
          rwa [show a.off + (j * 5 + i) = a.off + j * 5 + i by omega] at this) (fun j x hx => by
          obtain ⟨hj, rfl⟩ := hlist j x hx
          exact (hf j hj).2.1)
        rwa [hlen9] at this
set_option maxRecDepth 100000 in
theorem con_of {b0 : Nat} {v : Value} {d : DataW H} {q : List MemPlace} {ts : List TypeId} {ds : List (DataW H)} {j : Nat} (hsz : (DataW.weightsEach Try.prog ts ds).all (· ≤ reachBytes) = true) (ht : ts[j]? = some 24) (hd : ds[j]? = some d)
    (hv : Value.okWide Try.prog w .any b0 24 v) (h : DataW.Trod enc Try.prog w 0 (fun _ => true) true 24 v d q) :
    ∃ (x : Con) (s : Value), v = conV x.a s ∧ KV w (fun b => b < w.heap.size) x.ks s ∧ x.a.wide := by
  obtain ⟨⟨l⟩, rfl, hs5⟩ := okWide_struct Try.underlying24 hv
  obtain ⟨fuel, hf⟩ := h
  obtain ⟨x, s, h1, h2, h3⟩ := open_con fuel _ _ hf (fun n hn => by
    have := List.all_eq_true.1 hsz n (DataW.weights_mem_each ht hd n hn)
    have h9 := reachBytes_lt
    have h3 : (2 : Nat) ^ 47 = 140737488355328 := by decide
    have := of_decide_eq_true this
    omega)
  refine ⟨x, s, ?_, h2, h3⟩
  have h1 : l = encC x.a s := h1
  rw [h1]; rfl
end
end Go.Proofs.Ytbbmfpdlkogkfaa.Co
end
section
namespace Go.Proofs.Ytbbmfpdlkogkfaa.Co
open Go.RowKit Go.Shelf
theorem right_w (x : Con) (sv : Value) (a b k : Int) (yb : Nat) (w : World) (hK : KV w (fun b => b < w.heap.size) x.ks sv) (hw : x.a.wide) (h3 : (Lit.int .i64 k).wf = true) :
    Calls Try.prog 10 #[conV x.a sv, .int .i64 a, .int .i64 b, .int .i64 k, .float .f64 yb] w fun e w' => e = .returned (.bool true) ∧ Below w.heap.size w w' :=
  right_c x sv a b k yb w (i64_of_wf h3) hK hw
end Go.Proofs.Ytbbmfpdlkogkfaa.Co
end
section
namespace Go.Proofs.Ytbbmfpdlkogkfaa.lawConsRight
open Go.ChangeShapes Go.WideShapes Go.ChangeAt Go.RowKit Go.Joins
theorem own : ownKnob Try.prog.godebug = none := by kernel_rfl
theorem laidOut : laidOutB Try.prog = true := by kernel_rfl
set_option maxHeartbeats 1000000 in
set_option maxRecDepth 100000 in
theorem lifted (os : Os) (started : os.Started) (H : Type) (enc : TypeId × Value → H) :
    ReturnsInHanded {} Try.checked os 10 .any (Rows.consRightSpec.pre6 enc Try.prog Try.f10 Rows.consRightRow.domain false) (Rows.consRightSpec.post enc Try.prog Try.f10 false true false false) := by
  refine returnsInHanded_of_change_sized (C := Try.checked) own started (by kernel_rfl) Try.func10
    (ChangeSpec.witness6 (enc := enc) (C := Try.checked) false ⟨#[], #[.agg #[.int .i64 0, .int .i64 0, .int .i64 0, .int .i64 0, .slice none 0 0], .int .i64 0, .int .i64 0, .int .i64 0, .float .f64 0], []⟩ 8 (by kernel_rfl) (by kernel_rfl) (by kernel_rfl) (by kernel_rfl)) ?_
  intro W base args ds gs before hval0 hW _ hsz0 _
  have hsz : (DataW.weightsEach Try.prog (Try.f10.params.toList ++ Rows.consRightSpec.plain.varTypes Try.prog) (ds ++ gs)).all (· ≤ reachBytes) = true := hsz0
  have hval : ∀ (j : Nat) t v, Try.f10.params[j]? = some t → args[j]? = some v → Value.okWide Try.prog W .any base t v := hval0
  have hW' := hW
  obtain ⟨p, q, hA0, hV, rfl, _, _⟩ := hW
  have hA : DataW.TrodAll enc Try.prog W 0 (fun _ => true) true Try.f10.params.toList args.toList ds p := hA0
  rw [Try.params10] at hA hval hsz
  obtain ⟨v0, vs0, d0, ds0, p0, q0, hargs, rfl, rfl, h0, r0⟩ := trodAll_cons hA
  obtain ⟨v1, vs1, d1, ds1, p1, q1, rfl, rfl, rfl, h1, r1⟩ := trodAll_cons r0
  obtain ⟨v2, vs2, d2, ds2, p2, q2, rfl, rfl, rfl, h2, r2⟩ := trodAll_cons r1
  obtain ⟨v3, vs3, d3, ds3, p3, q3, rfl, rfl, rfl, h3, r3⟩ := trodAll_cons r2
  obtain ⟨v4, vs4, d4, ds4, p4, q4, rfl, rfl, rfl, h4, r4⟩ := trodAll_cons r3
  obtain ⟨rfl, rfl, rfl⟩ := trodAll_nil r4
  obtain rfl : args = #[v0, v1, v2, v3, v4] := by cases args; simp_all
  obtain ⟨rfl, rfl⟩ := trodVars_none hV
  have k0 := h0
  have k1 := h1
  have k2 := h2
  have k3 := h3
  have k4 := h4
  clear hA0 hval0
  simp only [List.append_nil] at hW'
  obtain ⟨x0, s0, rfl, p0, z0⟩ := Co.con_of hsz (j := 0) (d := d0) rfl rfl (hval 0 24 v0 rfl rfl) h0
  obtain ⟨a1, rfl, _, _, hw1⟩ := open_int Try.underlying3 (hval 1 3 v1 rfl rfl) h1
  obtain ⟨a2, rfl, _, _, hw2⟩ := open_int Try.underlying3 (hval 2 3 v2 rfl rfl) h2
  obtain ⟨a3, rfl, _, _, hw3⟩ := open_int Try.underlying3 (hval 3 3 v3 rfl rfl) h3
  obtain ⟨a4, rfl, _, _, hw4⟩ := open_float Try.underlying48 (hval 4 48 v4 rfl rfl) h4
  refine (Co.right_w x0 s0 a1 a2 a3 a4 W p0 z0 hw3).mono fun e W' ⟨he, hb⟩ => ?_
  subst he
  have g0 := Below.trod (W' := W') laidOut (by kernel_rfl) (of_decide_eq_true (by kernel_rfl)) k0 hb (fun y hy => by simpa using hW'.lt y (by simp [hy]))
  have g1 := Below.trod (W' := W') laidOut (by kernel_rfl) (of_decide_eq_true (by kernel_rfl)) k1 hb (fun y hy => by simpa using hW'.lt y (by simp [hy]))
  have g2 := Below.trod (W' := W') laidOut (by kernel_rfl) (of_decide_eq_true (by kernel_rfl)) k2 hb (fun y hy => by simpa using hW'.lt y (by simp [hy]))
  have g3 := Below.trod (W' := W') laidOut (by kernel_rfl) (of_decide_eq_true (by kernel_rfl)) k3 hb (fun y hy => by simpa using hW'.lt y (by simp [hy]))
  have g4 := Below.trod (W' := W') laidOut (by kernel_rfl) (of_decide_eq_true (by kernel_rfl)) k4 hb (fun y hy => by simpa using hW'.lt y (by simp [hy]))
  exact ⟨_, rfl, post_args hW' (fun _ _ _ => (trodAll_cons_mk (shut_bool Try.underlying4 _) trodAll_mk0)) (by have hh := (trodAll_cons_mk g0 (trodAll_cons_mk g1 (trodAll_cons_mk g2 (trodAll_cons_mk g3 (trodAll_cons_mk g4 trodAll_mk0))))); simp only [List.append_nil] at hh; exact hh) rfl hb⟩
theorem over : Rows.consRightRow.holds Try.pinned (OpenSpec.ofChange Rows.consRightSpec) :=
  OpenClaim.holds_of_wide 10 Try.f10 rfl rfl rfl rfl rfl rfl rfl ⟨rfl, rfl, rfl, rfl, rfl⟩ rfl rfl rfl rfl rfl (by kernel_rfl) Try.func10 (by kernel_rfl)
    (of_decide_eq_true (by kernel_rfl)) (by unfold Func.isWrapper; first | (rw [if_pos (by decide +kernel)]; kernel_rfl) | (rw [if_neg (by decide +kernel)]; exact ⟨rfl, rfl⟩))
    (fun os started H enc _ => lifted os started H enc)
theorem proved : Rows.ConsRightSaid := over
#print axioms proved
end Go.Proofs.Ytbbmfpdlkogkfaa.lawConsRight
end
