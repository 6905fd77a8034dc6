/- The law's example. ConsRemoves, walked. What the calls that change a tree answer, in one form for the code's and the document's. ConsChanges, walked. Plain: what is told of trees are trees: wrapped, of another weight, without a client, with one more. Plain: a client put in and removed again. The document's Top. Are two rows of numbers the same? Rows of numbers, as they read. ConsTells, walked. What laws ask of a container that lies in memory, in one form. Walking about a tree: ways as pointers go along them, and the small functions of the code. Walking about, the code's: how many containers, the last seen client, the way that is gone from. walk.Next. Plain: the last seen client of what stands below the root. The document's small functions of layer 12. The document's Next. -/
import Derived.Test.YtbbmfpdlkogkfaaKX
import Derived.Test.YtbbmfpdlkogkfaaCpZ
import Derived.Test.YtbbmfpdlkogkfaaKZ
import Derived.Test.YtbbmfpdlkogkfaaKY
import Derived.Test.YtbbmfpdlkogkfaaCpL
import Derived.Test.YtbbmfpdlkogkfaaCpX
import Derived.Test.YtbbmfpdlkogkfaaCpQ
import Derived.Test.YtbbmfpdlkogkfaaCpY
import Derived.Test.YtbbmfpdlkogkfaaCpI
import Derived.Test.YtbbmfpdlkogkfaaCpR
import Derived.Test.YtbbmfpdlkogkfaaCpJ
import Derived.Test.YtbbmfpdlkogkfaaCpK
import Derived.Test.YtbbmfpdlkogkfaaCoT
import Derived.Test.YtbbmfpdlkogkfaaCoN
import Derived.Test.YtbbmfpdlkogkfaaCpU
import Derived.Test.YtbbmfpdlkogkfaaCpP
import Derived.Test.YtbbmfpdlkogkfaaCoW
section
namespace Go.Proofs.Ytbbmfpdlkogkfaa.Co
open Go.RowKit Go.Shelf
theorem KV.pair {w : World} {g : Nat} {x y : Con} {s t : Value} (hb : Blk w g 24 #[.int .i64 x.a.k, .int .i64 x.a.w, .int .i64 x.a.c, .int .i64 x.a.s, s, .int .i64 y.a.k, .int .i64 y.a.w, .int .i64 y.a.c, .int .i64 y.a.s, t]) {Z : Nat → Prop} (hz : Z g) (hx : KV w Z x.ks s) (hwx : x.a.wide) (hy : KV w Z y.ks t) (hwy : y.a.wide) : KV w Z [x, y] (.slice (some ⟨g, 0, none⟩) 2 2) := by
  refine .mk [x, y] _ 2 (fun j => if j = 0 then s else t) (by simp) (by simp) (fun j z hz' => ?_) (fun j z hz' => ?_)
  · have hj := (List.getElem?_eq_some_iff.1 hz').1
    simp at hj
    obtain rfl | rfl : j = 0 ∨ j = 1 := by omega
    · obtain rfl := Option.some.inj hz'
      refine ⟨g, 0, rfl, hz, hb.lt, hwx, fun i u hu => ?_⟩
      have hi := (List.getElem?_eq_some_iff.1 hu).1
      simp [encC] at hi
      have := hb.at_ (i := i) (v := u) (by
        obtain rfl | rfl | rfl | rfl | rfl : i = 0 ∨ i = 1 ∨ i = 2 ∨ i = 3 ∨ i = 4 := by omega
        all_goals exact hu)
      simpa using this
    · obtain rfl := Option.some.inj hz'
      refine ⟨g, 0, rfl, hz, hb.lt, hwy, fun i u hu => ?_⟩
      have hi := (List.getElem?_eq_some_iff.1 hu).1
      simp [encC] at hi
      have := hb.at_ (i := 5 + i) (v := u) (by
        obtain rfl | rfl | rfl | rfl | rfl : i = 0 ∨ i = 1 ∨ i = 2 ∨ i = 3 ∨ i = 4 := by omega
        all_goals exact hu)
      simpa using this
  · have hj := (List.getElem?_eq_some_iff.1 hz').1
    simp at hj
    obtain rfl | rfl : j = 0 ∨ j = 1 := by omega
    · obtain rfl := Option.some.inj hz'
      exact hx
    · obtain rfl := Option.some.inj hz'
      exact hy
theorem i64c (n : Int) (h : -100000 ≤ n ∧ n ≤ 100000) : I64 n := by unfold I64; omega
theorem spl_wide (k : Int) (h : -100000 ≤ k ∧ k ≤ 100000) : (⟨k, 65536, 0, 0⟩ : D).wide := ⟨i64c k h, i64c 65536 (by decide), i64c 0 (by decide), i64c 0 (by decide)⟩
def T1 : Con := .mk ⟨1, 65536, 0, 0⟩ [leafT 1, leafT 2]
def T2 : Con := .mk ⟨1, 65536, 0, 0⟩ [leafT 1, .mk ⟨2, 65536, 0, 0⟩ [leafT 2]]
def T3 : Con := .mk ⟨1, 65536, 0, 0⟩ [leafT 1, .mk ⟨2, 65536, 0, 0⟩ [leafT 2, leafT 3]]
theorem leafT_fine {c : Int} (h : I64 c) : fine (leafT c) := fine_mk ⟨i64c 0 (by decide), i64c 65536 (by decide), h, i64c 0 (by decide)⟩ (by simp) (by simp)
theorem T1_fine : fine T1 := fine_mk (spl_wide _ (by decide)) (by simp) (by
  intro x hx
  simp only [List.mem_cons, List.not_mem_nil, or_false] at hx
  rcases hx with rfl | rfl
  all_goals exact leafT_fine (i64c _ (by decide)))
theorem T2_fine : fine T2 := fine_mk (spl_wide _ (by decide)) (by simp) (by
  intro x hx
  simp only [List.mem_cons, List.not_mem_nil, or_false] at hx
  rcases hx with rfl | rfl
  · exact leafT_fine (i64c _ (by decide))
  · exact fine_mk (spl_wide _ (by decide)) (by simp) (by
      intro x hx
      simp only [List.mem_cons, List.not_mem_nil, or_false] at hx
      subst hx
      exact leafT_fine (i64c _ (by decide))))
theorem T3_fine : fine T3 := fine_mk (spl_wide _ (by decide)) (by simp) (by
  intro x hx
  simp only [List.mem_cons, List.not_mem_nil, or_false] at hx
  rcases hx with rfl | rfl
  · exact leafT_fine (i64c _ (by decide))
  · exact fine_mk (spl_wide _ (by decide)) (by simp) (by
      intro x hx
      simp only [List.mem_cons, List.not_mem_nil, or_false] at hx
      rcases hx with rfl | rfl
      all_goals exact leafT_fine (i64c _ (by decide))))
theorem aw_wrap : wrapI T1 2 2 = (T2, 0) := by kernel_rfl
theorem aw_insert : insertI T2 2 3 0 = (T3, 0) := by kernel_rfl
theorem aw_remove : removeI T3 3 = (T1, 0) := by kernel_rfl
theorem aw_told {N : Nat} {r : Con × Int} {t : Con} {e : Ending} {w : World} (h : TellR N r e w) (hr : r = (t, 0)) (hf : fine t) : ∃ s, e = .returned (.tuple #[conV t.a s, .int .i64 0]) ∧ KV w (fun b => N ≤ b) t.ks s := by
  subst hr
  obtain ⟨y, s, h1, h2, h3⟩ := h.reads fun _ => hf
  rw [if_pos rfl] at h3
  subst h3
  exact ⟨s, h1, h2⟩
theorem aw_new (w : World) : Calls Try.prog 23 #[.int .i64 1] w fun e w' => e = .returned (.agg #[.int .i64 1, .int .i64 65536, .int .i64 0, .int .i64 0, .slice none 0 0]) ∧ Below w.heap.size w w' := new_c 1 w
theorem aw_leaf (c : Int) (w : World) : Calls Try.prog 55 #[.int .i64 c] w fun e w' => e = .returned (.agg #[.int .i64 0, .int .i64 65536, .int .i64 c, .int .i64 0, .slice none 0 0]) ∧ Below w.heap.size w w' := leaf_c c w
theorem aw_call {N : Nat} {r : Con × Int} {t : Con} {e : Ending} {w : World} (ha : t.a = ⟨1, 65536, 0, 0⟩) (hl : t.ks.length = 2) (h : TellR N r e w) (hr : r = (t, 0)) (hf : fine t) : ∃ p c, e = .returned (.tuple #[.agg #[.int .i64 1, .int .i64 65536, .int .i64 0, .int .i64 0, .slice p 2 c], .int .i64 0]) ∧ KV w (fun b => N ≤ b) t.ks (.slice p 2 c) := by
  obtain ⟨s, h1, h2⟩ := aw_told h hr hf
  obtain ⟨p, c, rfl, -⟩ := h2.slice
  rw [hl] at h1 h2
  rw [ha] at h1
  exact ⟨p, c, h1, h2⟩
theorem wrap_aw (s : Value) (w : World) (hK : KV w (fun b => b < w.heap.size) T1.ks s) : Calls Try.prog 37 #[.agg #[.int .i64 1, .int .i64 65536, .int .i64 0, .int .i64 0, s], .int .i64 2, .int .i64 2] w fun e w' => (∃ p c, e = .returned (.tuple #[.agg #[.int .i64 1, .int .i64 65536, .int .i64 0, .int .i64 0, .slice p 2 c], .int .i64 0]) ∧ KV w' (fun b => w.heap.size ≤ b) T2.ks (.slice p 2 c)) ∧ Below w.heap.size w w' :=
  (wrap_c T1 s 2 2 w hK (T1_fine [] T1 rfl).1 (by decide) (by decide)).mono fun e w' ⟨h1, h2⟩ => ⟨aw_call rfl rfl h1 aw_wrap T2_fine, h2⟩
theorem ins_aw (s : Value) (w : World) (hK : KV w (fun b => b < w.heap.size) T2.ks s) : Calls Try.prog 31 #[.agg #[.int .i64 1, .int .i64 65536, .int .i64 0, .int .i64 0, s], .int .i64 2, .int .i64 3, .int .i64 0] w fun e w' => (∃ p c, e = .returned (.tuple #[.agg #[.int .i64 1, .int .i64 65536, .int .i64 0, .int .i64 0, .slice p 2 c], .int .i64 0]) ∧ KV w' (fun b => w.heap.size ≤ b) T3.ks (.slice p 2 c)) ∧ Below w.heap.size w w' :=
  (Insert_c T2 s 2 3 0 w hK (T2_fine [] T2 rfl).1 (by decide) (by decide) (by decide +kernel)).mono fun e w' ⟨h1, h2⟩ => ⟨aw_call rfl rfl h1 aw_insert T3_fine, h2⟩
theorem rem_aw (s : Value) (w : World) (hK : KV w (fun b => b < w.heap.size) T3.ks s) : Calls Try.prog 33 #[.agg #[.int .i64 1, .int .i64 65536, .int .i64 0, .int .i64 0, s], .int .i64 3] w fun e w' => (∃ p c, e = .returned (.tuple #[.agg #[.int .i64 1, .int .i64 65536, .int .i64 0, .int .i64 0, .slice p 2 c], .int .i64 0]) ∧ KV w' (fun b => w.heap.size ≤ b) T1.ks (.slice p 2 c)) ∧ Below w.heap.size w w' :=
  (remove_c T3 s 3 w hK (T3_fine [] T3 rfl).1 (by decide) (by decide)).mono fun e w' ⟨h1, h2⟩ => ⟨aw_call rfl rfl h1 aw_remove T1_fine, h2⟩
theorem same_aw (t : Con) (ha : t.a = ⟨1, 65536, 0, 0⟩) (s u : Value) (w : World) {Z Z' : Nat → Prop} (h1 : KV w Z t.ks s) (h2 : KV w Z' t.ks u) : Calls Try.prog 21 #[.agg #[.int .i64 1, .int .i64 65536, .int .i64 0, .int .i64 0, s], .agg #[.int .i64 1, .int .i64 65536, .int .i64 0, .int .i64 0, u]] w fun e w' => e = .returned (.bool true) ∧ Below w.heap.size w w' := by
  have := same_c Z Z' t t s u w h1 h2
  rw [sameB_refl, ha] at this
  exact this
set_option maxHeartbeats 4000000 in
theorem awake_c (w : World) : Calls Try.prog 18 #[] w fun e w' => e = .returned (.bool true) ∧ Below w.heap.size w w' := by
  go_enter Try.func18, Try.ntmps18
  go_wp2_with fail
  refine (aw_new w).mono ?_
  rintro e w1 ⟨rfl, hb1⟩
  have q1 := Blk.new w1 24 #[.int .i64 1, .int .i64 65536, .int .i64 0, .int .i64 0, .slice none 0 0]
  go_wp2_with fail
  refine (aw_leaf 1 _).mono ?_
  rintro e w2 ⟨rfl, hb2⟩
  have q2 := q1.next hb2
  go_wp2_with fail
  refine (aw_leaf 2 _).mono ?_
  rintro e w3 ⟨rfl, hb3⟩
  have q3 := q2.next hb3
  obtain ⟨⟨b0, b1, b2, b3, b4⟩, ⟨f0, f1, f2, f3, f4⟩⟩ := c5 q3
  have hs3 : w1.heap.size < w3.heap.size := q3.lt
  have hs4 : w1.heap.size ≠ w3.heap.size := Nat.ne_of_lt hs3
  have hb13 : Below w.heap.size w w3 := by
    have h2 := ((hb1.alloc hb1.size (.cells #[.int .i64 1, .int .i64 65536, .int .i64 0, .int .i64 0, .slice none 0 0] 24)).trans (hb2.mono (by simp; exact Nat.le_succ_of_le hb1.size)))
    exact h2.trans (hb3.mono h2.size)
  have HB13 := Lib.hid hb13
  have HQ3 := Lib.hid q3
  have HS1 := Lib.hid hb1.size
  clear hb1 hb2 hb3 q1 q2 q3 hb13
  go_wp2_with fail
  obtain ⟨wA, hwA⟩ : ∃ wA, wA = (w3.setCell ⟨w1.heap.size, 4, none⟩ (.slice (some ⟨w3.heap.size, 0, none⟩) 2 2)).alloc (.cells #[.int .i64 0, .int .i64 65536, .int .i64 1, .int .i64 0, .slice none 0 0, .int .i64 0, .int .i64 65536, .int .i64 2, .int .i64 0, .slice none 0 0] 24) := ⟨_, rfl⟩
  rewrite [← hwA]
  have hbA : Below w.heap.size w wA := by rw [hwA]; exact (HB13.out.setCell HS1.out _).alloc (by simp; exact HB13.out.size) _
  have qA : Blk wA w1.heap.size 24 #[.int .i64 1, .int .i64 65536, .int .i64 0, .int .i64 0, .slice (some ⟨w3.heap.size, 0, none⟩) 2 2] := by rw [hwA]; exact (HQ3.out.set_ 4 _).alloc _
  have qB : Blk wA w3.heap.size 24 #[.int .i64 0, .int .i64 65536, .int .i64 1, .int .i64 0, .slice none 0 0, .int .i64 0, .int .i64 65536, .int .i64 2, .int .i64 0, .slice none 0 0] := by
    rw [hwA]; have := Blk.new (w3.setCell ⟨w1.heap.size, 4, none⟩ (.slice (some ⟨w3.heap.size, 0, none⟩) 2 2)) 24 #[.int .i64 0, .int .i64 65536, .int .i64 1, .int .i64 0, .slice none 0 0, .int .i64 0, .int .i64 65536, .int .i64 2, .int .i64 0, .slice none 0 0]; rwa [World.size_setCell] at this
  have hkA : KV wA (fun b => b < wA.heap.size) T1.ks (.slice (some ⟨w3.heap.size, 0, none⟩) 2 2) := KV.pair (x := leafT 1) (y := leafT 2) qB qB.lt (KV.nil _ _ _ _) (leafT_fine (i64c _ (by decide)) [] _ rfl).1 (KV.nil _ _ _ _) (leafT_fine (i64c _ (by decide)) [] _ rfl).1
  clear hwA HQ3 HB13 HS1 b0 b1 b2 b3 b4 f0 f1 f2 f3 f4 qB
  refine (wrap_aw _ wA hkA).mono ?_
  rintro e w4 ⟨⟨p4, k4, rfl, hk4⟩, hb4⟩
  have q4 := Blk.new w4 24 #[.int .i64 1, .int .i64 65536, .int .i64 0, .int .i64 0, .slice p4 2 k4]
  go_wp2_with fail
  have hb4' : Below w.heap.size w (w4.alloc (.cells #[.int .i64 1, .int .i64 65536, .int .i64 0, .int .i64 0, .slice p4 2 k4] 24)) := (hbA.trans (hb4.mono hbA.size)).alloc (Nat.le_trans hbA.size hb4.size) _
  have qA4 := (qA.next hb4).alloc (.cells #[.int .i64 1, .int .i64 65536, .int .i64 0, .int .i64 0, .slice p4 2 k4] 24)
  refine (ins_aw _ _ (hk4.alloc _).all).mono ?_
  rintro e w5 ⟨⟨p5, k5, rfl, hk5⟩, hb5⟩
  have hkA4 := (hkA.next hb4).alloc (.cells #[.int .i64 1, .int .i64 65536, .int .i64 0, .int .i64 0, .slice p4 2 k4] 24)
  have hkA5 := hkA4.next hb5
  have qA5 := qA4.next hb5
  have hb5' := hb4'.trans (hb5.mono hb4'.size)
  have q5 := Blk.new w5 24 #[.int .i64 1, .int .i64 65536, .int .i64 0, .int .i64 0, .slice p5 2 k5]
  clear hb4 hb5 hb4' qA qA4 q4 hk4 hbA hkA hkA4
  go_wp2_with fail
  have hb5a : Below w.heap.size w (w5.alloc (.cells #[.int .i64 1, .int .i64 65536, .int .i64 0, .int .i64 0, .slice p5 2 k5] 24)) := hb5'.alloc hb5'.size _
  have qA5' := qA5.alloc (.cells #[.int .i64 1, .int .i64 65536, .int .i64 0, .int .i64 0, .slice p5 2 k5] 24)
  have hkA5' := hkA5.alloc (.cells #[.int .i64 1, .int .i64 65536, .int .i64 0, .int .i64 0, .slice p5 2 k5] 24)
  have hk5' := hk5.alloc (.cells #[.int .i64 1, .int .i64 65536, .int .i64 0, .int .i64 0, .slice p5 2 k5] 24)
  refine (rem_aw _ _ (hk5.alloc _).all).mono ?_
  rintro e w6 ⟨⟨p6, k6, rfl, hk6⟩, hb6⟩
  have hb6' := hb5a.trans (hb6.mono hb5a.size)
  have qA6 := qA5'.next hb6
  have q56 := q5.next hb6
  have hkA6 := hkA5'.next hb6
  have hk56 := hk5'.next hb6
  have q6 := Blk.new w6 24 #[.int .i64 1, .int .i64 65536, .int .i64 0, .int .i64 0, .slice p6 2 k6]
  clear hb5' hb5a qA5 qA5' q5 hk5 hk5' hkA5 hkA5' hb6
  go_wp2_with fail
  have hb6a : Below w.heap.size w (w6.alloc (.cells #[.int .i64 1, .int .i64 65536, .int .i64 0, .int .i64 0, .slice p6 2 k6] 24)) := hb6'.alloc hb6'.size _
  have qA6' := qA6.alloc (.cells #[.int .i64 1, .int .i64 65536, .int .i64 0, .int .i64 0, .slice p6 2 k6] 24)
  have q56' := q56.alloc (.cells #[.int .i64 1, .int .i64 65536, .int .i64 0, .int .i64 0, .slice p6 2 k6] 24)
  have hkA6' := hkA6.alloc (.cells #[.int .i64 1, .int .i64 65536, .int .i64 0, .int .i64 0, .slice p6 2 k6] 24)
  have hk56' := hk56.alloc (.cells #[.int .i64 1, .int .i64 65536, .int .i64 0, .int .i64 0, .slice p6 2 k6] 24)
  have hk6' := hk6.alloc (.cells #[.int .i64 1, .int .i64 65536, .int .i64 0, .int .i64 0, .slice p6 2 k6] 24)
  clear qA6 q56 hkA6 hk56 hk6 hb6'
  refine (aw_leaf 1 _).mono ?_
  rintro e w7 ⟨rfl, hb7⟩
  go_wp2_with fail
  refine (aw_leaf 2 _).mono ?_
  rintro e w8 ⟨rfl, hb8⟩
  have hb68 := hb7.trans (hb8.mono hb7.size)
  clear hb7 hb8
  go_wp2_with fail
  refine (aw_leaf 3 _).mono ?_
  rintro e w9 ⟨rfl, hb9⟩
  have hb69 := hb68.trans (hb9.mono hb68.size)
  have hb9' := hb6a.trans (hb69.mono hb6a.size)
  have qA9 := qA6'.next hb69
  have q59 := q56'.next hb69
  have q69 := q6.next hb69
  have hkA9 := hkA6'.next hb69
  have hk59 := hk56'.next hb69
  have hk69 := hk6'.next hb69
  clear hb9 hb68 hb69 hb6a qA6' q56' q6 hkA6' hk56' hk6'
  obtain ⟨⟨a0, a1, a2, a3, a4⟩, -⟩ := c5 qA9
  obtain ⟨⟨b0, b1, b2, b3, b4⟩, -⟩ := c5 q59
  obtain ⟨⟨c0, c1, c2, c3, c4⟩, -⟩ := c5 q69
  have hw10 : w1.heap.size < w9.heap.size  := by have := qA9.lt; omega
  have hw10' : w1.heap.size ≠ w9.heap.size  := by have := qA9.lt; omega
  have hw11 : w1.heap.size < w9.heap.size + 1 := by have := qA9.lt; omega
  have hw11' : w1.heap.size ≠ w9.heap.size + 1 := by have := qA9.lt; omega
  have hw12 : w1.heap.size < w9.heap.size + 1 + 1 := by have := qA9.lt; omega
  have hw12' : w1.heap.size ≠ w9.heap.size + 1 + 1 := by have := qA9.lt; omega
  have hw50 : w5.heap.size < w9.heap.size  := by have := q59.lt; omega
  have hw50' : w5.heap.size ≠ w9.heap.size  := by have := q59.lt; omega
  have hw51 : w5.heap.size < w9.heap.size + 1 := by have := q59.lt; omega
  have hw51' : w5.heap.size ≠ w9.heap.size + 1 := by have := q59.lt; omega
  have hw52 : w5.heap.size < w9.heap.size + 1 + 1 := by have := q59.lt; omega
  have hw52' : w5.heap.size ≠ w9.heap.size + 1 + 1 := by have := q59.lt; omega
  have hw60 : w6.heap.size < w9.heap.size  := by have := q69.lt; omega
  have hw60' : w6.heap.size ≠ w9.heap.size  := by have := q69.lt; omega
  have hw61 : w6.heap.size < w9.heap.size + 1 := by have := q69.lt; omega
  have hw61' : w6.heap.size ≠ w9.heap.size + 1 := by have := q69.lt; omega
  have hw62 : w6.heap.size < w9.heap.size + 1 + 1 := by have := q69.lt; omega
  have hw62' : w6.heap.size ≠ w9.heap.size + 1 + 1 := by have := q69.lt; omega
  have HQA := Lib.hid qA9
  have HQ6 := Lib.hid q69
  have HB9 := Lib.hid hb9'
  clear qA9 q59 q69 hs3 hs4 hb9'
  have HK5 := Lib.hid hk59
  have HK6 := Lib.hid hk69
  have HKA := Lib.hid hkA9
  clear hk59 hk69 hkA9
  go_wp2_with fail
  obtain ⟨wZ, hwZ⟩ : ∃ W : World, W = ((w9.alloc (.cells #[.int .i64 0, .int .i64 65536, .int .i64 2, .int .i64 0, .slice none 0 0, .int .i64 0, .int .i64 65536, .int .i64 3, .int .i64 0, .slice none 0 0] 24)).alloc (.cells #[.int .i64 0, .int .i64 65536, .int .i64 1, .int .i64 0, .slice none 0 0, .int .i64 2, .int .i64 65536, .int .i64 0, .int .i64 0, .slice (some ⟨w9.heap.size, 0, none⟩) 2 2] 24)).alloc (.cells #[.int .i64 1, .int .i64 65536, .int .i64 0, .int .i64 0, .slice (some ⟨w9.heap.size + 1, 0, none⟩) 2 2] 24) := ⟨_, rfl⟩
  rewrite [← hwZ]
  have hz : Below w9.heap.size w9 wZ := by rw [hwZ]; exact (((Below.refl _ _).alloc (Nat.le_refl _) _).alloc (by simp) _).alloc (by simp; omega) _
  have z1 : Blk wZ w9.heap.size 24 #[.int .i64 0, .int .i64 65536, .int .i64 2, .int .i64 0, .slice none 0 0, .int .i64 0, .int .i64 65536, .int .i64 3, .int .i64 0, .slice none 0 0] := by rw [hwZ]; exact ((Blk.new w9 24 _).alloc _).alloc _
  have z2 : Blk wZ (w9.heap.size + 1) 24 #[.int .i64 0, .int .i64 65536, .int .i64 1, .int .i64 0, .slice none 0 0, .int .i64 2, .int .i64 65536, .int .i64 0, .int .i64 0, .slice (some ⟨w9.heap.size, 0, none⟩) 2 2] := by
    rw [hwZ]; have := (Blk.new (w9.alloc (.cells #[.int .i64 0, .int .i64 65536, .int .i64 2, .int .i64 0, .slice none 0 0, .int .i64 0, .int .i64 65536, .int .i64 3, .int .i64 0, .slice none 0 0] 24)) 24 #[.int .i64 0, .int .i64 65536, .int .i64 1, .int .i64 0, .slice none 0 0, .int .i64 2, .int .i64 65536, .int .i64 0, .int .i64 0, .slice (some ⟨w9.heap.size, 0, none⟩) 2 2]).alloc (.cells #[.int .i64 1, .int .i64 65536, .int .i64 0, .int .i64 0, .slice (some ⟨w9.heap.size + 1, 0, none⟩) 2 2] 24); rwa [World.size_alloc] at this
  have hk1 : KV wZ (fun _ => True) [leafT 2, leafT 3] (.slice (some ⟨w9.heap.size, 0, none⟩) 2 2) := KV.pair (x := leafT 2) (y := leafT 3) z1 trivial (KV.nil _ _ _ _) (leafT_fine (i64c _ (by decide)) [] _ rfl).1 (KV.nil _ _ _ _) (leafT_fine (i64c _ (by decide)) [] _ rfl).1
  have hk2 : KV wZ (fun _ => True) T3.ks (.slice (some ⟨w9.heap.size + 1, 0, none⟩) 2 2) := KV.pair (x := leafT 1) (y := .mk ⟨2, 65536, 0, 0⟩ [leafT 2, leafT 3]) z2 trivial (KV.nil _ _ _ _) (leafT_fine (i64c _ (by decide)) [] _ rfl).1 hk1 (spl_wide _ (by decide))
  have hz' := HB9.out.trans (hz.mono HB9.out.size)
  have qAZ := HQA.out.next hz
  have q6Z := HQ6.out.next hz
  have hk6Z := HK6.out.next hz
  have hkAZ := HKA.out.next hz
  refine (same_aw T3 rfl _ _ wZ (HK5.out.next hz) hk2).mono ?_
  rintro e w10 ⟨rfl, hb10⟩
  have hbX := Lib.hid (hz'.trans (hb10.mono hz'.size))
  have hkX := Lib.hid (hkAZ.next hb10)
  have hkY := Lib.hid (hk6Z.next hb10)
  obtain ⟨⟨x0, x1, x2, x3, x4⟩, -⟩ := c5 (qAZ.next hb10)
  obtain ⟨⟨y0, y1, y2, y3, y4⟩, -⟩ := c5 (q6Z.next hb10)
  clear hb10 hkAZ hk6Z qAZ q6Z hz' hk1 hk2 z1 z2 hz hwZ HQA HQ6 HK6 HKA HK5 HB9
  go_wp2_with fail
  refine (same_aw T1 rfl _ _ w10 hkY.out hkX.out).mono ?_
  rintro e w11 ⟨rfl, hb11⟩
  have hbW := hbX.out.trans (hb11.mono hbX.out.size)
  clear hb11
  go_wp2_with fail
  go_ret
  exact ⟨rfl, hbW⟩
end Go.Proofs.Ytbbmfpdlkogkfaa.Co
end
section
namespace Go.Proofs.Ytbbmfpdlkogkfaa.Co
open Go.RowKit Go.Shelf
/-- Both tell the same container. -/
theorem told_same {r q : Con × Int} {y z : Con} (h : r = q) (hy : y = if r.2 = 0 then r.1 else zeroT) (hz : z = if q.2 = 0 then q.1 else zeroT) : sameB y z = true := by
  subst h; rw [hy, hz]; exact sameB_refl _
theorem same_t {Z Z' : Nat → Prop} {y z : Con} {s u : Value} {w : World} (h : sameB y z = true) (h1 : KV w Z y.ks s) (h2 : KV w Z' z.ks u) : Calls Try.prog 21 #[conV y.a s, conV z.a u] w fun e w' => e = .returned (.bool true) ∧ Below w.heap.size w w' := by
  have := same_c Z Z' y z s u w h1 h2
  rwa [h] at this
theorem remove_fine {x : Con} {c : Int} (hf : fine x) (h : (removeD x c).2 = 0) : fine (removeD x c).1 := by
  rw [removeD_asked] at h ⊢
  by_cases h0 : askedI x c = 0
  · rw [if_pos h0]
    obtain ⟨a, ks⟩ := x
    obtain ⟨h1, h2, h3⟩ := fine_kids hf
    exact fine_mk h1 (Nat.le_trans (lessL_len c ks) h2) (lessL_fine h3)
  · rw [if_neg h0] at h; exact absurd h h0
set_option maxHeartbeats 4000000 in
theorem removes_c (x : Con) (sv : Value) (c : Int) (w : World) (hK : KV w (fun b => b < w.heap.size) x.ks sv) (hw : x.a.wide) :
    Calls Try.prog 6 #[conV x.a sv, .int .i64 c] w fun e w' => e = .returned (.bool true) ∧ Below w.heap.size w w' := by
  obtain ⟨p, cap, rfl, -⟩ := hK.slice
  obtain ⟨n, hn⟩ : ∃ n, n = x.ks.length := ⟨_, rfl⟩
  rw [← hn] at hK ⊢
  have hb0 := (Below.refl w.heap.size w).alloc (Nat.le_refl _) (.cells #[.int .i64 x.a.k, .int .i64 x.a.w, .int .i64 x.a.c, .int .i64 x.a.s, .slice p n cap] 24)
  have hq0 := Blk.new w 24 #[.int .i64 x.a.k, .int .i64 x.a.w, .int .i64 x.a.c, .int .i64 x.a.s, .slice p n cap]
  have HF := Lib.hid (few_c (fun b => b < w.heap.size) x (.slice p n cap) _ (hK.next hb0))
  have HB := Lib.hid hb0
  have HQ := Lib.hid hq0
  have HK := Lib.hid hK
  obtain ⟨dn, hdn⟩ : ∃ d, d = decide (nodesC x 0 ≤ 500) := ⟨_, rfl⟩
  rw [← hdn] at HF
  have HD := Lib.hid hdn
  have HW := Lib.hid hw
  clear hn hK hb0 hq0 hdn hw
  show Calls Try.prog 6 #[.agg #[.int .i64 x.a.k, .int .i64 x.a.w, .int .i64 x.a.c, .int .i64 x.a.s, .slice p n cap], .int .i64 c] w _
  go_enter Try.func6, Try.ntmps6
  go_wp2_with fail
  refine HF.out.mono ?_
  rintro e w1 ⟨rfl, hb⟩
  have hb1 := HB.out.trans (hb.mono HB.out.size)
  have HB1 := Lib.hid hb1
  have q1 := HQ.out.next hb
  have HQ1 := Lib.hid q1
  obtain ⟨⟨b0, b1, b2, b3, b4⟩, -⟩ := c5 q1
  clear hb hb1 HF HB q1
  cases dn
  · go_wp2_with fail
    refine (awake_c w1).mono ?_
    rintro e w2 ⟨rfl, hb⟩
    have HB2 := HB1.out.trans (hb.mono HB1.out.size)
    clear hb
    go_wp2_with fail
    go_ret
    exact ⟨rfl, HB2⟩
  · have hs := Small.of HK.out HW.out (of_decide_eq_true HD.out.symm)
    have HR := Lib.hid (remove_c x (.slice p n cap) c w1 (HK.out.next HB1.out).all HW.out hs.ht hs.wd)
    have HS := Lib.hid hs
    clear hs HD
    go_wp2_with fail
    refine HR.out.mono ?_
    rintro e w2 ⟨ht, hb⟩
    rw [show removeI x c = removeD x c from removeD_eq x c] at ht
    obtain ⟨y, s, rfl, hky, hy⟩ := ht.reads (fun h => remove_fine HS.out.f h)
    obtain ⟨py, ky, rfl, -⟩ := hky.slice
    obtain ⟨ny, hny⟩ : ∃ n, n = y.ks.length := ⟨_, rfl⟩
    rw [← hny] at hky ⊢
    obtain ⟨r, hr⟩ : ∃ r, r = removeD x c := ⟨_, rfl⟩
    rw [← hr] at hy ⊢
    obtain ⟨er, her⟩ : ∃ e, e = r.2 := ⟨_, rfl⟩
    rw [← her]
    have hb2 := HB1.out.trans (hb.mono HB1.out.size)
    have q2 := HQ1.out.next hb
    have HB2 := Lib.hid hb2
    have HQ2 := Lib.hid q2
    have HKY := Lib.hid hky
    have HY := Lib.hid hy
    have HRR := Lib.hid hr
    have HER := Lib.hid her
    clear hb hb2 HB1 HQ1 b0 b1 b2 b3 b4 hky hny hy hr her ht HR
    obtain ⟨⟨b0, b1, b2, b3, b4⟩, -⟩ := c5 q2
    have hs1 : w.heap.size < w2.heap.size := q2.lt
    have hs2 : w.heap.size ≠ w2.heap.size := Nat.ne_of_lt hs1
    clear q2
    go_wp2_with fail
    have hbN := HB2.out.alloc HB2.out.size (.cells #[.int .i64 y.a.k, .int .i64 y.a.w, .int .i64 y.a.c, .int .i64 y.a.s, .slice py ny ky] 24)
    have HKN := Lib.hid (HKY.out.alloc (.cells #[.int .i64 y.a.k, .int .i64 y.a.w, .int .i64 y.a.c, .int .i64 y.a.s, .slice py ny ky] 24))
    have HBN := Lib.hid hbN
    have HQN := Lib.hid (Blk.new w2 24 #[.int .i64 y.a.k, .int .i64 y.a.w, .int .i64 y.a.c, .int .i64 y.a.s, .slice py ny ky])
    refine (RemoveR_c c x (fun b => b < w.heap.size) (.slice p n cap) _ (HK.out.next hbN) (fun b h => Nat.lt_of_lt_of_le h hbN.size) HS.out.al HS.out.f).mono ?_
    rintro e w3 ⟨hb, z, s, rfl, hkz, hz⟩
    obtain ⟨pz, kz, rfl, -⟩ := hkz.slice
    obtain ⟨nz, hnz⟩ : ∃ n, n = z.ks.length := ⟨_, rfl⟩
    rw [← hnz] at hkz ⊢
    rw [← HRR.out] at hz ⊢
    rw [← HER.out]
    have hb3 := HBN.out.trans (hb.mono HBN.out.size)
    have HB3 := Lib.hid hb3
    have HKY3 := Lib.hid (HKN.out.next hb)
    have HKZ := Lib.hid hkz
    have HSM := Lib.hid (told_same (y := y) (z := z) rfl HY.out hz)
    obtain ⟨⟨b0, b1, b2, b3, b4⟩, -⟩ := c5 (HQN.out.next hb)
    have hs1 : w2.heap.size < w3.heap.size := (HQN.out.next hb).lt
    have hs2 : w2.heap.size ≠ w3.heap.size := Nat.ne_of_lt hs1
    clear hb hb3 hkz hnz hz HKN HQN HBN hbN HB2 HKY HY HRR HER
    go_wp2_with fail
    have hbN := HB3.out.alloc HB3.out.size (.cells #[.int .i64 z.a.k, .int .i64 z.a.w, .int .i64 z.a.c, .int .i64 z.a.s, .slice pz nz kz] 24)
    have HBN := Lib.hid hbN
    refine (same_t HSM.out (HKY3.out.alloc _) (HKZ.out.alloc _)).mono ?_
    rintro e w4 ⟨rfl, hb⟩
    have hb4 := HBN.out.trans (hb.mono HBN.out.size)
    have HB4 := Lib.hid hb4
    clear hb hb4 hbN HBN
    go_wp2_with fail
    refine (awake_c w4).mono ?_
    rintro e w5 ⟨rfl, hb⟩
    have hb5 := HB4.out.trans (hb.mono HB4.out.size)
    clear hb HB4
    go_wp2_with fail
    go_ret
    exact ⟨rfl, hb5⟩
end Go.Proofs.Ytbbmfpdlkogkfaa.Co
end
section
namespace Go.Proofs.Ytbbmfpdlkogkfaa.Co
open Go.RowKit Go.Shelf
theorem zeroT_fine : fine zeroT := fine_mk ⟨⟨by decide, by decide⟩, ⟨by decide, by decide⟩, ⟨by decide, by decide⟩, ⟨by decide, by decide⟩⟩ (by simp) (by simp)
theorem chg_fine {x : Con} {c : Int} {F : Con → List Nat → Con × Int} (h : ∀ u, fine (F x u).1) : fine (chgI x c F).1 := by
  unfold chgI
  split
  · exact zeroT_fine
  · split
    · exact h _
    · exact zeroT_fine
theorem turnF_fine {x : Con} {k : Int} {u : List Nat} (hf : fine x) (hk : I64 k) : fine (turnF k x u).1 := by
  unfold turnF
  split
  · rename_i p hp
    obtain ⟨⟨_, f1, f2, f3⟩, f4⟩ := hf _ p hp
    have := fine_get hf hp
    obtain ⟨a, ks⟩ := p
    exact fine_put hf (fine_mk ⟨hk, f1, f2, f3⟩ f4 (fine_kids this).2.2)
  · exact hf
theorem touchF_fine {x : Con} {k : Int} {u : List Nat} (hf : fine x) (hk : I64 k) : fine (touchF k x u).1 := by
  unfold touchF
  split
  · rename_i p hp
    obtain ⟨⟨f0, f1, f2, f3⟩, f4⟩ := hf _ p hp
    have := fine_get hf hp
    obtain ⟨a, ks⟩ := p
    exact fine_put hf (fine_mk ⟨f0, f1, f2, hk⟩ f4 (fine_kids this).2.2)
  · exact hf
theorem wrapF_fine {x : Con} {k : Int} {u : List Nat} (hf : fine x) (hk : I64 k) : fine (wrapF k x u).1 := by
  unfold wrapF
  split
  · rename_i p y hp hy
    obtain ⟨⟨_, f1, f2, f3⟩, f4⟩ := hf _ p hp
    obtain ⟨⟨g0, g1, g2, g3⟩, g4⟩ := hf _ y hy
    have h1 := fine_get hf hp
    have h2 := fine_get hf hy
    have h0 : I64 0 := ⟨by decide, by decide⟩
    split
    · obtain ⟨a, ks⟩ := p
      exact fine_put hf (fine_mk ⟨hk, f1, f2, f3⟩ f4 (fine_kids h1).2.2)
    · split
      · exact hf
      · obtain ⟨a, ks⟩ := y
        refine fine_put hf (fine_mk ⟨hk, g1, h0, h0⟩ (by simp) ?_)
        intro t ht
        rw [List.mem_singleton] at ht
        subst ht
        exact fine_mk ⟨g0, (show I64 65536 from ⟨by decide, by decide⟩), g2, g3⟩ g4 (fine_kids h2).2.2
  · exact hf
theorem wrap_fine {x : Con} {c k : Int} (hf : fine x) (hk : I64 k) : fine (wrapI x c k).1 := by
  unfold wrapI; split; exact chg_fine fun u => wrapF_fine hf hk; exact zeroT_fine
theorem turn_fine {x : Con} {c k : Int} (hf : fine x) (hk : I64 k) : fine (turnI x c k).1 := by
  unfold turnI; split; exact chg_fine fun u => turnF_fine hf hk; exact zeroT_fine
theorem touch_fine {x : Con} {c k : Int} (hf : fine x) (hk : I64 k) : fine (touchI x c k).1 := by
  unfold touchI; split; exact zeroT_fine; exact chg_fine fun u => touchF_fine hf hk
/-- What a call answers: an error's number, and a container. -/
def AnsR (B : Nat) (r : Con × Int) (W : World) (e : Ending) (w' : World) : Prop :=
  ∃ (y : Con) (p : Option Addr) (n k : Nat), e = .returned (.tuple #[.agg #[.int .i64 y.a.k, .int .i64 y.a.w, .int .i64 y.a.c, .int .i64 y.a.s, .slice p n k], .int .i64 r.2]) ∧ KV w' (fun b => b < B ∨ W.heap.size ≤ b) y.ks (.slice p n k) ∧ (y = if r.2 = 0 then r.1 else zeroT) ∧ Below W.heap.size W w'
theorem TellR.ans {B : Nat} {r : Con × Int} {W w' : World} {e : Ending} (h : TellR W.heap.size r e w') (hb : Below W.heap.size W w') (hf : fine r.1) : AnsR B r W e w' := by
  obtain ⟨y, s, h1, h2, h3⟩ := h.reads (fun _ => hf)
  obtain ⟨p, k, rfl, -⟩ := h2.slice
  exact ⟨y, p, _, k, h1, h2.weak (fun b h => .inr h), h3, hb⟩
theorem DocR.ans {B : Nat} {r : Con × Int} {W w' : World} {e : Ending} (h : DocR (fun b => b < B) r W e w') : AnsR B r W e w' := by
  obtain ⟨h0, y, s, h1, h2, h3⟩ := h
  obtain ⟨p, k, rfl, -⟩ := h2.slice
  exact ⟨y, p, _, k, h1, h2, h3, h0⟩
theorem swap_fine' {x : Con} {a b : Int} (hf : fine x) : fine (swapI x a b).1 := by
  unfold swapI
  split
  · exact zeroT_fine
  · split
    · exact zeroT_fine
    · split
      · rename_i v w _ _
        show fine (swapF v w x)
        have h0 : I64 0 := ⟨by decide, by decide⟩
        unfold swapF
        split
        · rename_i p q hp hq
          obtain ⟨⟨_, f1, f2, f3⟩, _⟩ := hf v p hp
          obtain ⟨⟨_, f4, f5, f6⟩, _⟩ := hf w q hq
          exact fine_put (fine_put hf (fine_mk ⟨h0, f1, f5, f6⟩ (by simp) (by simp))) (fine_mk ⟨h0, f4, f2, f3⟩ (by simp) (by simp))
        · exact hf
      · exact zeroT_fine
section
variable {x : Con} {p : Option Addr} {n cap : Nat} {w W : World}
theorem swap_ans (a b : Int) (hK : KV w (fun b => b < w.heap.size) x.ks (.slice p n cap)) (hs : Small x) (h : Below w.heap.size w W) : Calls Try.prog 35 #[.agg #[.int .i64 x.a.k, .int .i64 x.a.w, .int .i64 x.a.c, .int .i64 x.a.s, .slice p n cap], .int .i64 a, .int .i64 b] W (AnsR w.heap.size (swapI x a b) W) :=
  (Swap_c x (.slice p n cap) a b W (hK.next h).all hs.wide hs.ht hs.wd).mono fun _ _ h2 => h2.1.ans h2.2 (swap_fine' hs.f)
theorem swap_ansR (a b : Int) (hK : KV w (fun b => b < w.heap.size) x.ks (.slice p n cap)) (hs : Small x) (h : Below w.heap.size w W) : Calls Try.prog 36 #[.agg #[.int .i64 x.a.k, .int .i64 x.a.w, .int .i64 x.a.c, .int .i64 x.a.s, .slice p n cap], .int .i64 a, .int .i64 b] W (AnsR w.heap.size (swapI x a b) W) :=
  (SwapR_c a b x (fun b => b < w.heap.size) (.slice p n cap) W (hK.next h) (fun _ hb => Nat.lt_of_lt_of_le hb h.size) hs.al hs.f).mono fun _ _ h2 => h2.ans
theorem wrap_ans (a b : Int) (hb : I64 b) (hK : KV w (fun b => b < w.heap.size) x.ks (.slice p n cap)) (hs : Small x) (h : Below w.heap.size w W) : Calls Try.prog 37 #[.agg #[.int .i64 x.a.k, .int .i64 x.a.w, .int .i64 x.a.c, .int .i64 x.a.s, .slice p n cap], .int .i64 a, .int .i64 b] W (AnsR w.heap.size (wrapI x a b) W) :=
  (wrap_c x (.slice p n cap) a b W (hK.next h).all hs.wide hs.ht hs.wd).mono fun _ _ h2 => h2.1.ans h2.2 (wrap_fine hs.f hb)
theorem wrap_ansR (a b : Int) (_hb : I64 b) (hK : KV w (fun b => b < w.heap.size) x.ks (.slice p n cap)) (hs : Small x) (h : Below w.heap.size w W) : Calls Try.prog 38 #[.agg #[.int .i64 x.a.k, .int .i64 x.a.w, .int .i64 x.a.c, .int .i64 x.a.s, .slice p n cap], .int .i64 a, .int .i64 b] W (AnsR w.heap.size (wrapI x a b) W) :=
  (WrapR_c a b x (fun b => b < w.heap.size) (.slice p n cap) W (hK.next h) (fun _ hb => Nat.lt_of_lt_of_le hb h.size) hs.al hs.f).mono fun _ _ h2 => h2.ans
theorem turn_ans (a b : Int) (hb : I64 b) (hK : KV w (fun b => b < w.heap.size) x.ks (.slice p n cap)) (hs : Small x) (h : Below w.heap.size w W) : Calls Try.prog 39 #[.agg #[.int .i64 x.a.k, .int .i64 x.a.w, .int .i64 x.a.c, .int .i64 x.a.s, .slice p n cap], .int .i64 a, .int .i64 b] W (AnsR w.heap.size (turnI x a b) W) :=
  (turn_c x (.slice p n cap) a b W (hK.next h).all hs.wide hs.ht hs.wd).mono fun _ _ h2 => h2.1.ans h2.2 (turn_fine hs.f hb)
theorem turn_ansR (a b : Int) (_hb : I64 b) (hK : KV w (fun b => b < w.heap.size) x.ks (.slice p n cap)) (hs : Small x) (h : Below w.heap.size w W) : Calls Try.prog 40 #[.agg #[.int .i64 x.a.k, .int .i64 x.a.w, .int .i64 x.a.c, .int .i64 x.a.s, .slice p n cap], .int .i64 a, .int .i64 b] W (AnsR w.heap.size (turnI x a b) W) :=
  (TurnR_c a b x (fun b => b < w.heap.size) (.slice p n cap) W (hK.next h) (fun _ hb => Nat.lt_of_lt_of_le hb h.size) hs.al hs.f).mono fun _ _ h2 => h2.ans
theorem touch_ans (a b : Int) (hb : I64 b) (hK : KV w (fun b => b < w.heap.size) x.ks (.slice p n cap)) (hs : Small x) (h : Below w.heap.size w W) : Calls Try.prog 41 #[.agg #[.int .i64 x.a.k, .int .i64 x.a.w, .int .i64 x.a.c, .int .i64 x.a.s, .slice p n cap], .int .i64 a, .int .i64 b] W (AnsR w.heap.size (touchI x a b) W) :=
  (touch_c x (.slice p n cap) a b W (hK.next h).all hs.wide hs.ht hs.wd).mono fun _ _ h2 => h2.1.ans h2.2 (touch_fine hs.f hb)
theorem touch_ansR (a b : Int) (hb : I64 b) (hK : KV w (fun b => b < w.heap.size) x.ks (.slice p n cap)) (hs : Small x) (h : Below w.heap.size w W) : Calls Try.prog 42 #[.agg #[.int .i64 x.a.k, .int .i64 x.a.w, .int .i64 x.a.c, .int .i64 x.a.s, .slice p n cap], .int .i64 a, .int .i64 b] W (AnsR w.heap.size (touchI x a b) W) :=
  (TouchR_c a b x (fun b => b < w.heap.size) (.slice p n cap) W (hK.next h) (fun _ hb => Nat.lt_of_lt_of_le hb h.size) hs.al hs.f hb).mono fun _ _ h2 => h2.ans
end
end Go.Proofs.Ytbbmfpdlkogkfaa.Co
end
section
namespace Go.Proofs.Ytbbmfpdlkogkfaa.Co
open Go.RowKit Go.Shelf
theorem same_k {Z Z' : Nat → Prop} {y z : Con} {p q : Option Addr} {n n' c d : Nat} {w : World} (h : sameB y z = true) (h1 : KV w Z y.ks (.slice p n c)) (h2 : KV w Z' z.ks (.slice q n' d)) : Calls Try.prog 21 #[.agg #[.int .i64 y.a.k, .int .i64 y.a.w, .int .i64 y.a.c, .int .i64 y.a.s, .slice p n c], .agg #[.int .i64 z.a.k, .int .i64 z.a.w, .int .i64 z.a.c, .int .i64 z.a.s, .slice q n' d]] w fun e w' => e = .returned (.bool true) ∧ Below w.heap.size w w' := same_t h h1 h2
theorem hkA9 {w w' : World} {Z : Nat → Prop} {ks : List Con} {v : Value} (h : KV w Z ks v) (hb : Below w.heap.size w w') : KV w' Z ks v := h.next hb
set_option maxHeartbeats 4000000 in
set_option maxRecDepth 100000 in
theorem changes_c (x : Con) (sv : Value) (a b k : Int) (w : World) (hb : I64 b) (hk : I64 k) (hK : KV w (fun b => b < w.heap.size) x.ks sv) (hw : x.a.wide) :
    Calls Try.prog 7 #[conV x.a sv, .int .i64 a, .int .i64 b, .int .i64 k] w fun e w' => e = .returned (.bool true) ∧ Below w.heap.size w w' := by
  obtain ⟨p, cap, rfl, -⟩ := hK.slice
  obtain ⟨n, hn⟩ : ∃ n, n = x.ks.length := ⟨_, rfl⟩
  rw [← hn] at hK ⊢
  have hb0 := (Below.refl w.heap.size w).alloc (Nat.le_refl _) (.cells #[.int .i64 x.a.k, .int .i64 x.a.w, .int .i64 x.a.c, .int .i64 x.a.s, .slice p n cap] 24)
  have hq0 := Blk.new w 24 #[.int .i64 x.a.k, .int .i64 x.a.w, .int .i64 x.a.c, .int .i64 x.a.s, .slice p n cap]
  have HF := Lib.hid (few_c (fun b => b < w.heap.size) x (.slice p n cap) _ (hK.next hb0))
  have HB := Lib.hid hb0
  have HQ := Lib.hid hq0
  have HK := Lib.hid hK
  obtain ⟨dn, hdn⟩ : ∃ d, d = decide (nodesC x 0 ≤ 500) := ⟨_, rfl⟩
  rw [← hdn] at HF
  have HD := Lib.hid hdn
  have HW := Lib.hid hw
  have HIB := Lib.hid hb
  have HIK := Lib.hid hk
  clear hn hK hb0 hq0 hdn hw hb hk
  show Calls Try.prog 7 #[.agg #[.int .i64 x.a.k, .int .i64 x.a.w, .int .i64 x.a.c, .int .i64 x.a.s, .slice p n cap], .int .i64 a, .int .i64 b, .int .i64 k] w _
  go_enter Try.func7, Try.ntmps7
  go_wp2_with fail
  refine HF.out.mono ?_
  rintro e w1 ⟨rfl, hb⟩
  have hb1 := HB.out.trans (hb.mono HB.out.size)
  have HB1 := Lib.hid hb1
  have q1 := HQ.out.next hb
  have HQ1 := Lib.hid q1
  obtain ⟨⟨b0, b1, b2, b3, b4⟩, -⟩ := c5 q1
  clear hb hb1 HF HB q1
  cases dn
  · go_wp2_with fail
    refine (awake_c w1).mono ?_
    rintro e w2 ⟨rfl, hb⟩
    have HB2 := HB1.out.trans (hb.mono HB1.out.size)
    clear hb
    go_wp2_with fail
    go_ret
    exact ⟨rfl, HB2⟩
  · have hs := Small.of HK.out HW.out (of_decide_eq_true HD.out.symm)
    have HS := Lib.hid hs
    clear hs HD
    have HC := Lib.hid (swap_ans a b HK.out HS.out HB1.out)
    go_wp2_with fail
    refine HC.out.mono ?_
    rintro e wc0 ⟨y, py, ny, ky, rfl, hky, hy, hb⟩
    obtain ⟨r, hr⟩ : ∃ r, r = swapI x a b := ⟨_, rfl⟩
    rw [← hr] at hy ⊢
    obtain ⟨er, her⟩ : ∃ e, e = r.2 := ⟨_, rfl⟩
    rw [← her]
    have HR := Lib.hid hr
    have HER := Lib.hid her
    have HY := Lib.hid hy
    have HB2 := Lib.hid (HB1.out.trans (hb.mono HB1.out.size))
    have HQ2 := Lib.hid (HQ1.out.next hb)
    have HKY := Lib.hid hky
    clear hb hky hy hr her HC b0 b1 b2 b3 b4
    obtain ⟨⟨b0, b1, b2, b3, b4⟩, -⟩ := c5 HQ2.out
    have hs1 : w.heap.size < wc0.heap.size := HQ2.out.lt
    have hs2 : w.heap.size ≠ wc0.heap.size := Nat.ne_of_lt hs1
    have HD : Hid (∀ W, Below w.heap.size w W → Calls Try.prog 36 #[.agg #[.int .i64 x.a.k, .int .i64 x.a.w, .int .i64 x.a.c, .int .i64 x.a.s, .slice p n cap], .int .i64 a, .int .i64 b] W (AnsR w.heap.size (swapI x a b) W)) := fun W h => swap_ansR a b HK.out HS.out h
    go_upto_region 4 with fail
    have hbA := HB2.out.alloc HB2.out.size (.cells #[.int .i64 y.a.k, .int .i64 y.a.w, .int .i64 y.a.c, .int .i64 y.a.s, .slice py ny ky] 24)
    have hqA := Blk.new wc0 24 #[.int .i64 y.a.k, .int .i64 y.a.w, .int .i64 y.a.c, .int .i64 y.a.s, .slice py ny ky]
    have hqx := HQ2.out.alloc (.cells #[.int .i64 y.a.k, .int .i64 y.a.w, .int .i64 y.a.c, .int .i64 y.a.s, .slice py ny ky] 24)
    have hkA := HKY.out.alloc (.cells #[.int .i64 y.a.k, .int .i64 y.a.w, .int .i64 y.a.c, .int .i64 y.a.s, .slice py ny ky] 24)
    obtain ⟨v1, hv1⟩ : ∃ v1, v1 = wc0.alloc (.cells #[.int .i64 y.a.k, .int .i64 y.a.w, .int .i64 y.a.c, .int .i64 y.a.s, .slice py ny ky] 24) := ⟨_, rfl⟩
    obtain ⟨gA, hgA⟩ : ∃ g, g = wc0.heap.size := ⟨_, rfl⟩
    rw [← hv1] at hbA hqA hqx hkA ⊢
    rw [← hgA] at hqA hs1 ⊢
    have HGA := Lib.hid hqA
    have HLA : Hid (w.heap.size < gA) := hs1
    have HBA := Lib.hid hbA
    have HQA := Lib.hid hqx
    have HKA := Lib.hid hkA
    clear hv1 hgA hbA hqA hqx hkA b0 b1 b2 b3 b4 hs1 hs2 HKY HB2 HQ2
    obtain ⟨⟨b0, b1, b2, b3, b4⟩, -⟩ := c5 HQA.out
    go_wp2_with fail
    refine (HD.out _ HBA.out).mono ?_
    rintro e wd0 ⟨z, pz, nz, kz, rfl, hkz, hz, hb⟩
    rw [← HR.out] at hz ⊢
    rw [← HER.out]
    have HSM := Lib.hid (told_same (y := y) (z := z) rfl HY.out hz)
    have HB3 := Lib.hid (HBA.out.trans (hb.mono HBA.out.size))
    have HQ3 := Lib.hid (HQA.out.next hb)
    have HGA3 := Lib.hid (HGA.out.next hb)
    have HKY3 := Lib.hid (hkA9 HKA.out hb)
    have HKZ := Lib.hid hkz
    clear hb hkz hz HD HY HR HER HKA HGA HBA HQA b0 b1 b2 b3 b4
    obtain ⟨⟨b0, b1, b2, b3, b4⟩, -⟩ := c5 HQ3.out
    obtain ⟨⟨y0, y1, y2, y3, y4⟩, -⟩ := c5 HGA3.out
    have hs1 : w.heap.size < wd0.heap.size := HQ3.out.lt
    have hs2 : gA < wd0.heap.size := HGA3.out.lt
    have hs3 : gA ≠ wd0.heap.size := Nat.ne_of_lt hs2
    go_upto_region 5 with fail
    have hbA := HB3.out.alloc HB3.out.size (.cells #[.int .i64 z.a.k, .int .i64 z.a.w, .int .i64 z.a.c, .int .i64 z.a.s, .slice pz nz kz] 24)
    have hqB := Blk.new wd0 24 #[.int .i64 z.a.k, .int .i64 z.a.w, .int .i64 z.a.c, .int .i64 z.a.s, .slice pz nz kz]
    have hqx := HQ3.out.alloc (.cells #[.int .i64 z.a.k, .int .i64 z.a.w, .int .i64 z.a.c, .int .i64 z.a.s, .slice pz nz kz] 24)
    have hqA := HGA3.out.alloc (.cells #[.int .i64 z.a.k, .int .i64 z.a.w, .int .i64 z.a.c, .int .i64 z.a.s, .slice pz nz kz] 24)
    have hkA := HKY3.out.alloc (.cells #[.int .i64 z.a.k, .int .i64 z.a.w, .int .i64 z.a.c, .int .i64 z.a.s, .slice pz nz kz] 24)
    have hkB := HKZ.out.alloc (.cells #[.int .i64 z.a.k, .int .i64 z.a.w, .int .i64 z.a.c, .int .i64 z.a.s, .slice pz nz kz] 24)
    obtain ⟨v2, hv2⟩ : ∃ v2, v2 = wd0.alloc (.cells #[.int .i64 z.a.k, .int .i64 z.a.w, .int .i64 z.a.c, .int .i64 z.a.s, .slice pz nz kz] 24) := ⟨_, rfl⟩
    obtain ⟨gB, hgB⟩ : ∃ g, g = wd0.heap.size := ⟨_, rfl⟩
    rw [← hv2] at hbA hqA hqB hqx hkA hkB ⊢
    rw [← hgB] at hqB hs1 hs3 ⊢
    have HGA4 := Lib.hid hqA
    have HGB4 := Lib.hid hqB
    have HLB : Hid (w.heap.size < gB) := hs1
    have HNE : Hid (gA ≠ gB) := hs3
    have HB4 := Lib.hid hbA
    have HQ4 := Lib.hid hqx
    have HKY4 := Lib.hid hkA
    have HKZ4 := Lib.hid hkB
    clear hv2 hgB hbA hqA hqB hqx hkA hkB b0 b1 b2 b3 b4 y0 y1 y2 y3 y4 hs1 hs2 hs3 HGA3 HB3 HQ3 HKY3 HKZ
    obtain ⟨⟨b0, b1, b2, b3, b4⟩, -⟩ := c5 HQ4.out
    obtain ⟨⟨y0, y1, y2, y3, y4⟩, -⟩ := c5 HGA4.out
    obtain ⟨⟨z0, z1, z2, z3, z4⟩, -⟩ := c5 HGB4.out
    go_wp2_with fail
    refine (same_k HSM.out HKY4.out HKZ4.out).mono ?_
    rintro e ws0 ⟨rfl, hb⟩
    have HBp0 := Lib.hid (HB4.out.trans (hb.mono HB4.out.size))
    have HQp0 := Lib.hid (HQ4.out.next hb)
    have HGAp0 := Lib.hid (HGA4.out.next hb)
    have HGBp0 := Lib.hid (HGB4.out.next hb)
    clear hb HSM HKY4 HKZ4 HB4 HQ4 HGA4 HGB4 b0 b1 b2 b3 b4 y0 y1 y2 y3 y4 z0 z1 z2 z3 z4
    obtain ⟨⟨b0, b1, b2, b3, b4⟩, -⟩ := c5 HQp0.out
    have HC := Lib.hid (wrap_ans a k HIK.out HK.out HS.out HBp0.out)
    go_wp2_with fail
    refine HC.out.mono ?_
    rintro e wc1 ⟨y, py, ny, ky, rfl, hky, hy, hb⟩
    obtain ⟨r, hr⟩ : ∃ r, r = wrapI x a k := ⟨_, rfl⟩
    rw [← hr] at hy ⊢
    obtain ⟨er, her⟩ : ∃ e, e = r.2 := ⟨_, rfl⟩
    rw [← her]
    have HR := Lib.hid hr
    have HER := Lib.hid her
    have HY := Lib.hid hy
    have HB2 := Lib.hid (HBp0.out.trans (hb.mono HBp0.out.size))
    have HQ2 := Lib.hid (HQp0.out.next hb)
    have HGA2 := Lib.hid (HGAp0.out.next hb)
    have HGB2 := Lib.hid (HGBp0.out.next hb)
    have HKY := Lib.hid hky
    have HLW : Hid (gA < ws0.heap.size) := HGAp0.out.lt
    have HLV : Hid (gB < ws0.heap.size) := HGBp0.out.lt
    clear hb hky hy hr her HC b0 b1 b2 b3 b4
    obtain ⟨⟨b0, b1, b2, b3, b4⟩, -⟩ := c5 HQ2.out
    obtain ⟨⟨y0, y1, y2, y3, y4⟩, y5, y6, y7, y8, y9⟩ := c5 HGA2.out
    have HD : Hid (∀ W, Below w.heap.size w W → Calls Try.prog 38 #[.agg #[.int .i64 x.a.k, .int .i64 x.a.w, .int .i64 x.a.c, .int .i64 x.a.s, .slice p n cap], .int .i64 a, .int .i64 k] W (AnsR w.heap.size (wrapI x a k) W)) := fun W h => wrap_ansR a k HIK.out HK.out HS.out h
    go_upto_region 8 with fail
    obtain ⟨hbA, hqA, hne⟩ := st5_next HB2.out (Nat.le_of_lt HLA.out) HGA2.out (.int .i64 y.a.k) (.int .i64 y.a.w) (.int .i64 y.a.c) (.int .i64 y.a.s) (.slice py ny ky)
    have hqx := hne _ _ _ (Nat.ne_of_lt HLA.out) HQ2.out
    have hqB := hne _ _ _ (fun e => HNE.out e.symm) HGB2.out
    have hkA := KV.st5 (g := gA) (Z' := fun b => b < w.heap.size ∨ ws0.heap.size ≤ b) HKY.out (fun b hb => by have h1 := HLA.out; have h2 := HLW.out; omega) (fun b hb => hb) (.int .i64 y.a.k) (.int .i64 y.a.w) (.int .i64 y.a.c) (.int .i64 y.a.s) (.slice py ny ky)
    obtain ⟨v1, hv1⟩ : ∃ v1, v1 = st5 wc1 gA (.int .i64 y.a.k) (.int .i64 y.a.w) (.int .i64 y.a.c) (.int .i64 y.a.s) (.slice py ny ky) := ⟨_, rfl⟩
    rw [← hv1] at hbA hqA hqx hqB hkA
    unfold st5 at hv1
    rewrite [← hv1]
    have HGA9 := Lib.hid hqA
    have HGB9 := Lib.hid hqB
    have HBA := Lib.hid hbA
    have HQA := Lib.hid hqx
    have HKA := Lib.hid hkA
    clear hv1 hbA hqA hqB hqx hkA hne b0 b1 b2 b3 b4 y0 y1 y2 y3 y4 y5 y6 y7 y8 y9 HKY HB2 HQ2 HGA2 HGB2
    obtain ⟨⟨b0, b1, b2, b3, b4⟩, -⟩ := c5 HQA.out
    go_wp2_with fail
    refine (HD.out _ HBA.out).mono ?_
    rintro e wd1 ⟨z, pz, nz, kz, rfl, hkz, hz, hb⟩
    rw [← HR.out] at hz ⊢
    rw [← HER.out]
    have HSM := Lib.hid (told_same (y := y) (z := z) rfl HY.out hz)
    have HB3 := Lib.hid (HBA.out.trans (hb.mono HBA.out.size))
    have HQ3 := Lib.hid (HQA.out.next hb)
    have HGA3 := Lib.hid (HGA9.out.next hb)
    have HGB3 := Lib.hid (HGB9.out.next hb)
    have HKY3 := Lib.hid (hkA9 HKA.out hb)
    have HKZ := Lib.hid hkz
    have HLV1 : Hid (gB < v1.heap.size) := HGB9.out.lt
    clear hb hkz hz HD HY HR HER HKA HGA9 HGB9 HBA HQA b0 b1 b2 b3 b4
    obtain ⟨⟨b0, b1, b2, b3, b4⟩, -⟩ := c5 HQ3.out
    obtain ⟨⟨y0, y1, y2, y3, y4⟩, y5, y6, y7, y8, y9⟩ := c5 HGB3.out
    go_upto_region 9 with fail
    obtain ⟨hbA, hqB, hne⟩ := st5_next HB3.out (Nat.le_of_lt HLB.out) HGB3.out (.int .i64 z.a.k) (.int .i64 z.a.w) (.int .i64 z.a.c) (.int .i64 z.a.s) (.slice pz nz kz)
    have hqx := hne _ _ _ (Nat.ne_of_lt HLB.out) HQ3.out
    have hqA := hne _ _ _ HNE.out HGA3.out
    have hkA := KV.st5 (g := gB) (Z' := fun b => b < w.heap.size ∨ ws0.heap.size ≤ b) HKY3.out (fun b hb => by have h1 := HLB.out; have h2 := HLV.out; omega) (fun b hb => hb) (.int .i64 z.a.k) (.int .i64 z.a.w) (.int .i64 z.a.c) (.int .i64 z.a.s) (.slice pz nz kz)
    have hkB := KV.st5 (g := gB) (Z' := fun b => b < w.heap.size ∨ v1.heap.size ≤ b) HKZ.out (fun b hb => by have h1 := HLB.out; have h2 := HLV1.out; omega) (fun b hb => hb) (.int .i64 z.a.k) (.int .i64 z.a.w) (.int .i64 z.a.c) (.int .i64 z.a.s) (.slice pz nz kz)
    obtain ⟨v2, hv2⟩ : ∃ v2, v2 = st5 wd1 gB (.int .i64 z.a.k) (.int .i64 z.a.w) (.int .i64 z.a.c) (.int .i64 z.a.s) (.slice pz nz kz) := ⟨_, rfl⟩
    rw [← hv2] at hbA hqA hqB hqx hkA hkB
    unfold st5 at hv2
    rewrite [← hv2]
    have HGA4 := Lib.hid hqA
    have HGB4 := Lib.hid hqB
    have HB4 := Lib.hid hbA
    have HQ4 := Lib.hid hqx
    have HKY4 := Lib.hid hkA
    have HKZ4 := Lib.hid hkB
    clear hv2 hbA hqA hqB hqx hkA hkB hne b0 b1 b2 b3 b4 y0 y1 y2 y3 y4 y5 y6 y7 y8 y9 HGA3 HGB3 HB3 HQ3 HKY3 HKZ HGAp0 HGBp0
    obtain ⟨⟨b0, b1, b2, b3, b4⟩, -⟩ := c5 HQ4.out
    obtain ⟨⟨y0, y1, y2, y3, y4⟩, -⟩ := c5 HGA4.out
    obtain ⟨⟨z0, z1, z2, z3, z4⟩, -⟩ := c5 HGB4.out
    go_wp2_with fail
    refine (same_k HSM.out HKY4.out HKZ4.out).mono ?_
    rintro e ws1 ⟨rfl, hb⟩
    have HBp1 := Lib.hid (HB4.out.trans (hb.mono HB4.out.size))
    have HQp1 := Lib.hid (HQ4.out.next hb)
    have HGAp1 := Lib.hid (HGA4.out.next hb)
    have HGBp1 := Lib.hid (HGB4.out.next hb)
    clear hb HSM HKY4 HKZ4 HB4 HQ4 HGA4 HGB4 b0 b1 b2 b3 b4 y0 y1 y2 y3 y4 z0 z1 z2 z3 z4
    obtain ⟨⟨b0, b1, b2, b3, b4⟩, -⟩ := c5 HQp1.out
    have HC := Lib.hid (turn_ans a k HIK.out HK.out HS.out HBp1.out)
    go_wp2_with fail
    refine HC.out.mono ?_
    rintro e wc2 ⟨y, py, ny, ky, rfl, hky, hy, hb⟩
    obtain ⟨r, hr⟩ : ∃ r, r = turnI x a k := ⟨_, rfl⟩
    rw [← hr] at hy ⊢
    obtain ⟨er, her⟩ : ∃ e, e = r.2 := ⟨_, rfl⟩
    rw [← her]
    have HR := Lib.hid hr
    have HER := Lib.hid her
    have HY := Lib.hid hy
    have HB2 := Lib.hid (HBp1.out.trans (hb.mono HBp1.out.size))
    have HQ2 := Lib.hid (HQp1.out.next hb)
    have HGA2 := Lib.hid (HGAp1.out.next hb)
    have HGB2 := Lib.hid (HGBp1.out.next hb)
    have HKY := Lib.hid hky
    have HLW : Hid (gA < ws1.heap.size) := HGAp1.out.lt
    have HLV : Hid (gB < ws1.heap.size) := HGBp1.out.lt
    clear hb hky hy hr her HC b0 b1 b2 b3 b4
    obtain ⟨⟨b0, b1, b2, b3, b4⟩, -⟩ := c5 HQ2.out
    obtain ⟨⟨y0, y1, y2, y3, y4⟩, y5, y6, y7, y8, y9⟩ := c5 HGA2.out
    have HD : Hid (∀ W, Below w.heap.size w W → Calls Try.prog 40 #[.agg #[.int .i64 x.a.k, .int .i64 x.a.w, .int .i64 x.a.c, .int .i64 x.a.s, .slice p n cap], .int .i64 a, .int .i64 k] W (AnsR w.heap.size (turnI x a k) W)) := fun W h => turn_ansR a k HIK.out HK.out HS.out h
    go_upto_region 12 with fail
    obtain ⟨hbA, hqA, hne⟩ := st5_next HB2.out (Nat.le_of_lt HLA.out) HGA2.out (.int .i64 y.a.k) (.int .i64 y.a.w) (.int .i64 y.a.c) (.int .i64 y.a.s) (.slice py ny ky)
    have hqx := hne _ _ _ (Nat.ne_of_lt HLA.out) HQ2.out
    have hqB := hne _ _ _ (fun e => HNE.out e.symm) HGB2.out
    have hkA := KV.st5 (g := gA) (Z' := fun b => b < w.heap.size ∨ ws1.heap.size ≤ b) HKY.out (fun b hb => by have h1 := HLA.out; have h2 := HLW.out; omega) (fun b hb => hb) (.int .i64 y.a.k) (.int .i64 y.a.w) (.int .i64 y.a.c) (.int .i64 y.a.s) (.slice py ny ky)
    obtain ⟨v1, hv1⟩ : ∃ v1, v1 = st5 wc2 gA (.int .i64 y.a.k) (.int .i64 y.a.w) (.int .i64 y.a.c) (.int .i64 y.a.s) (.slice py ny ky) := ⟨_, rfl⟩
    rw [← hv1] at hbA hqA hqx hqB hkA
    unfold st5 at hv1
    rewrite [← hv1]
    have HGA9 := Lib.hid hqA
    have HGB9 := Lib.hid hqB
    have HBA := Lib.hid hbA
    have HQA := Lib.hid hqx
    have HKA := Lib.hid hkA
    clear hv1 hbA hqA hqB hqx hkA hne b0 b1 b2 b3 b4 y0 y1 y2 y3 y4 y5 y6 y7 y8 y9 HKY HB2 HQ2 HGA2 HGB2
    obtain ⟨⟨b0, b1, b2, b3, b4⟩, -⟩ := c5 HQA.out
    go_wp2_with fail
    refine (HD.out _ HBA.out).mono ?_
    rintro e wd2 ⟨z, pz, nz, kz, rfl, hkz, hz, hb⟩
    rw [← HR.out] at hz ⊢
    rw [← HER.out]
    have HSM := Lib.hid (told_same (y := y) (z := z) rfl HY.out hz)
    have HB3 := Lib.hid (HBA.out.trans (hb.mono HBA.out.size))
    have HQ3 := Lib.hid (HQA.out.next hb)
    have HGA3 := Lib.hid (HGA9.out.next hb)
    have HGB3 := Lib.hid (HGB9.out.next hb)
    have HKY3 := Lib.hid (hkA9 HKA.out hb)
    have HKZ := Lib.hid hkz
    have HLV1 : Hid (gB < v1.heap.size) := HGB9.out.lt
    clear hb hkz hz HD HY HR HER HKA HGA9 HGB9 HBA HQA b0 b1 b2 b3 b4
    obtain ⟨⟨b0, b1, b2, b3, b4⟩, -⟩ := c5 HQ3.out
    obtain ⟨⟨y0, y1, y2, y3, y4⟩, y5, y6, y7, y8, y9⟩ := c5 HGB3.out
    go_upto_region 13 with fail
    obtain ⟨hbA, hqB, hne⟩ := st5_next HB3.out (Nat.le_of_lt HLB.out) HGB3.out (.int .i64 z.a.k) (.int .i64 z.a.w) (.int .i64 z.a.c) (.int .i64 z.a.s) (.slice pz nz kz)
    have hqx := hne _ _ _ (Nat.ne_of_lt HLB.out) HQ3.out
    have hqA := hne _ _ _ HNE.out HGA3.out
    have hkA := KV.st5 (g := gB) (Z' := fun b => b < w.heap.size ∨ ws1.heap.size ≤ b) HKY3.out (fun b hb => by have h1 := HLB.out; have h2 := HLV.out; omega) (fun b hb => hb) (.int .i64 z.a.k) (.int .i64 z.a.w) (.int .i64 z.a.c) (.int .i64 z.a.s) (.slice pz nz kz)
    have hkB := KV.st5 (g := gB) (Z' := fun b => b < w.heap.size ∨ v1.heap.size ≤ b) HKZ.out (fun b hb => by have h1 := HLB.out; have h2 := HLV1.out; omega) (fun b hb => hb) (.int .i64 z.a.k) (.int .i64 z.a.w) (.int .i64 z.a.c) (.int .i64 z.a.s) (.slice pz nz kz)
    obtain ⟨v2, hv2⟩ : ∃ v2, v2 = st5 wd2 gB (.int .i64 z.a.k) (.int .i64 z.a.w) (.int .i64 z.a.c) (.int .i64 z.a.s) (.slice pz nz kz) := ⟨_, rfl⟩
    rw [← hv2] at hbA hqA hqB hqx hkA hkB
    unfold st5 at hv2
    rewrite [← hv2]
    have HGA4 := Lib.hid hqA
    have HGB4 := Lib.hid hqB
    have HB4 := Lib.hid hbA
    have HQ4 := Lib.hid hqx
    have HKY4 := Lib.hid hkA
    have HKZ4 := Lib.hid hkB
    clear hv2 hbA hqA hqB hqx hkA hkB hne b0 b1 b2 b3 b4 y0 y1 y2 y3 y4 y5 y6 y7 y8 y9 HGA3 HGB3 HB3 HQ3 HKY3 HKZ HGAp1 HGBp1
    obtain ⟨⟨b0, b1, b2, b3, b4⟩, -⟩ := c5 HQ4.out
    obtain ⟨⟨y0, y1, y2, y3, y4⟩, -⟩ := c5 HGA4.out
    obtain ⟨⟨z0, z1, z2, z3, z4⟩, -⟩ := c5 HGB4.out
    go_wp2_with fail
    refine (same_k HSM.out HKY4.out HKZ4.out).mono ?_
    rintro e ws2 ⟨rfl, hb⟩
    have HBp2 := Lib.hid (HB4.out.trans (hb.mono HB4.out.size))
    have HQp2 := Lib.hid (HQ4.out.next hb)
    have HGAp2 := Lib.hid (HGA4.out.next hb)
    have HGBp2 := Lib.hid (HGB4.out.next hb)
    clear hb HSM HKY4 HKZ4 HB4 HQ4 HGA4 HGB4 b0 b1 b2 b3 b4 y0 y1 y2 y3 y4 z0 z1 z2 z3 z4
    obtain ⟨⟨b0, b1, b2, b3, b4⟩, -⟩ := c5 HQp2.out
    have HC := Lib.hid (touch_ans a b HIB.out HK.out HS.out HBp2.out)
    go_wp2_with fail
    refine HC.out.mono ?_
    rintro e wc3 ⟨y, py, ny, ky, rfl, hky, hy, hb⟩
    obtain ⟨r, hr⟩ : ∃ r, r = touchI x a b := ⟨_, rfl⟩
    rw [← hr] at hy ⊢
    obtain ⟨er, her⟩ : ∃ e, e = r.2 := ⟨_, rfl⟩
    rw [← her]
    have HR := Lib.hid hr
    have HER := Lib.hid her
    have HY := Lib.hid hy
    have HB2 := Lib.hid (HBp2.out.trans (hb.mono HBp2.out.size))
    have HQ2 := Lib.hid (HQp2.out.next hb)
    have HGA2 := Lib.hid (HGAp2.out.next hb)
    have HGB2 := Lib.hid (HGBp2.out.next hb)
    have HKY := Lib.hid hky
    have HLW : Hid (gA < ws2.heap.size) := HGAp2.out.lt
    have HLV : Hid (gB < ws2.heap.size) := HGBp2.out.lt
    clear hb hky hy hr her HC b0 b1 b2 b3 b4
    obtain ⟨⟨b0, b1, b2, b3, b4⟩, -⟩ := c5 HQ2.out
    obtain ⟨⟨y0, y1, y2, y3, y4⟩, y5, y6, y7, y8, y9⟩ := c5 HGA2.out
    have HD : Hid (∀ W, Below w.heap.size w W → Calls Try.prog 42 #[.agg #[.int .i64 x.a.k, .int .i64 x.a.w, .int .i64 x.a.c, .int .i64 x.a.s, .slice p n cap], .int .i64 a, .int .i64 b] W (AnsR w.heap.size (touchI x a b) W)) := fun W h => touch_ansR a b HIB.out HK.out HS.out h
    go_upto_region 16 with fail
    obtain ⟨hbA, hqA, hne⟩ := st5_next HB2.out (Nat.le_of_lt HLA.out) HGA2.out (.int .i64 y.a.k) (.int .i64 y.a.w) (.int .i64 y.a.c) (.int .i64 y.a.s) (.slice py ny ky)
    have hqx := hne _ _ _ (Nat.ne_of_lt HLA.out) HQ2.out
    have hqB := hne _ _ _ (fun e => HNE.out e.symm) HGB2.out
    have hkA := KV.st5 (g := gA) (Z' := fun b => b < w.heap.size ∨ ws2.heap.size ≤ b) HKY.out (fun b hb => by have h1 := HLA.out; have h2 := HLW.out; omega) (fun b hb => hb) (.int .i64 y.a.k) (.int .i64 y.a.w) (.int .i64 y.a.c) (.int .i64 y.a.s) (.slice py ny ky)
    obtain ⟨v1, hv1⟩ : ∃ v1, v1 = st5 wc3 gA (.int .i64 y.a.k) (.int .i64 y.a.w) (.int .i64 y.a.c) (.int .i64 y.a.s) (.slice py ny ky) := ⟨_, rfl⟩
    rw [← hv1] at hbA hqA hqx hqB hkA
    unfold st5 at hv1
    rewrite [← hv1]
    have HGA9 := Lib.hid hqA
    have HGB9 := Lib.hid hqB
    have HBA := Lib.hid hbA
    have HQA := Lib.hid hqx
    have HKA := Lib.hid hkA
    clear hv1 hbA hqA hqB hqx hkA hne b0 b1 b2 b3 b4 y0 y1 y2 y3 y4 y5 y6 y7 y8 y9 HKY HB2 HQ2 HGA2 HGB2
    obtain ⟨⟨b0, b1, b2, b3, b4⟩, -⟩ := c5 HQA.out
    go_wp2_with fail
    refine (HD.out _ HBA.out).mono ?_
    rintro e wd3 ⟨z, pz, nz, kz, rfl, hkz, hz, hb⟩
    rw [← HR.out] at hz ⊢
    rw [← HER.out]
    have HSM := Lib.hid (told_same (y := y) (z := z) rfl HY.out hz)
    have HB3 := Lib.hid (HBA.out.trans (hb.mono HBA.out.size))
    have HQ3 := Lib.hid (HQA.out.next hb)
    have HGA3 := Lib.hid (HGA9.out.next hb)
    have HGB3 := Lib.hid (HGB9.out.next hb)
    have HKY3 := Lib.hid (hkA9 HKA.out hb)
    have HKZ := Lib.hid hkz
    have HLV1 : Hid (gB < v1.heap.size) := HGB9.out.lt
    clear hb hkz hz HD HY HR HER HKA HGA9 HGB9 HBA HQA b0 b1 b2 b3 b4
    obtain ⟨⟨b0, b1, b2, b3, b4⟩, -⟩ := c5 HQ3.out
    obtain ⟨⟨y0, y1, y2, y3, y4⟩, y5, y6, y7, y8, y9⟩ := c5 HGB3.out
    go_upto_region 17 with fail
    obtain ⟨hbA, hqB, hne⟩ := st5_next HB3.out (Nat.le_of_lt HLB.out) HGB3.out (.int .i64 z.a.k) (.int .i64 z.a.w) (.int .i64 z.a.c) (.int .i64 z.a.s) (.slice pz nz kz)
    have hqx := hne _ _ _ (Nat.ne_of_lt HLB.out) HQ3.out
    have hqA := hne _ _ _ HNE.out HGA3.out
    have hkA := KV.st5 (g := gB) (Z' := fun b => b < w.heap.size ∨ ws2.heap.size ≤ b) HKY3.out (fun b hb => by have h1 := HLB.out; have h2 := HLV.out; omega) (fun b hb => hb) (.int .i64 z.a.k) (.int .i64 z.a.w) (.int .i64 z.a.c) (.int .i64 z.a.s) (.slice pz nz kz)
    have hkB := KV.st5 (g := gB) (Z' := fun b => b < w.heap.size ∨ v1.heap.size ≤ b) HKZ.out (fun b hb => by have h1 := HLB.out; have h2 := HLV1.out; omega) (fun b hb => hb) (.int .i64 z.a.k) (.int .i64 z.a.w) (.int .i64 z.a.c) (.int .i64 z.a.s) (.slice pz nz kz)
    obtain ⟨v2, hv2⟩ : ∃ v2, v2 = st5 wd3 gB (.int .i64 z.a.k) (.int .i64 z.a.w) (.int .i64 z.a.c) (.int .i64 z.a.s) (.slice pz nz kz) := ⟨_, rfl⟩
    rw [← hv2] at hbA hqA hqB hqx hkA hkB
    unfold st5 at hv2
    rewrite [← hv2]
    have HGA4 := Lib.hid hqA
    have HGB4 := Lib.hid hqB
    have HB4 := Lib.hid hbA
    have HQ4 := Lib.hid hqx
    have HKY4 := Lib.hid hkA
    have HKZ4 := Lib.hid hkB
    clear hv2 hbA hqA hqB hqx hkA hkB hne b0 b1 b2 b3 b4 y0 y1 y2 y3 y4 y5 y6 y7 y8 y9 HGA3 HGB3 HB3 HQ3 HKY3 HKZ HGAp2 HGBp2
    obtain ⟨⟨b0, b1, b2, b3, b4⟩, -⟩ := c5 HQ4.out
    obtain ⟨⟨y0, y1, y2, y3, y4⟩, -⟩ := c5 HGA4.out
    obtain ⟨⟨z0, z1, z2, z3, z4⟩, -⟩ := c5 HGB4.out
    go_wp2_with fail
    refine (same_k HSM.out HKY4.out HKZ4.out).mono ?_
    rintro e ws3 ⟨rfl, hb⟩
    have HBp3 := Lib.hid (HB4.out.trans (hb.mono HB4.out.size))
    have HQp3 := Lib.hid (HQ4.out.next hb)
    have HGAp3 := Lib.hid (HGA4.out.next hb)
    have HGBp3 := Lib.hid (HGB4.out.next hb)
    clear hb HSM HKY4 HKZ4 HB4 HQ4 HGA4 HGB4 b0 b1 b2 b3 b4 y0 y1 y2 y3 y4 z0 z1 z2 z3 z4
    obtain ⟨⟨b0, b1, b2, b3, b4⟩, -⟩ := c5 HQp3.out
    go_wp2_with fail
    refine (awake_c ws3).mono ?_
    rintro e w5 ⟨rfl, hb⟩
    have hb5 := HBp3.out.trans (hb.mono HBp3.out.size)
    clear hb
    go_wp2_with fail
    go_ret
    exact ⟨rfl, hb5⟩
end Go.Proofs.Ytbbmfpdlkogkfaa.Co
end
section
namespace Go.Proofs.Ytbbmfpdlkogkfaa.Co
open Go.RowKit Go.Shelf
theorem clients_mk {a : D} {ks : List Con} (hk : a.k ≠ 0) : clients (.mk a ks) = ks.flatMap clients := by
  unfold clients
  rw [all_kid hk, List.map_flatMap]
theorem clients_w {x : Con} {d : D} (h1 : d.k = x.a.k) (h2 : d.c = x.a.c) : clients (.mk d x.ks) = clients x := by
  obtain ⟨a, ks⟩ := x
  simp only [Tr.a_mk, Tr.ks_mk] at h1 h2 ⊢
  by_cases hk : a.k = 0
  · rw [clients_leaf (y := .mk a ks) hk, clients_leaf (y := .mk d ks) (by rw [Tr.a_mk, h1]; exact hk)]
    simp only [Tr.a_mk, h2]
  · rw [clients_mk hk, clients_mk (by rw [h1]; exact hk)]
theorem split_shape {a : D} {ks : List Con} {d : Nat} (h : shape (.mk a ks) d = true) (hk : a.k ≠ 0) : d ≤ 8 ∧ 1 ≤ a.w ∧ a.w ≤ 1048576 ∧ 1 ≤ a.k ∧ a.k ≤ 4 ∧ a.c = 0 ∧ a.s = 0 ∧ ks.length ≤ 64 ∧ (d = 0 ∨ 0 < ks.length) ∧ ∀ x ∈ ks, shape x (d + 1) = true := by
  have hh := h
  simp only [shape, Bool.and_eq_true] at h
  have h1 := h.1
  unfold soundB at h1
  split at h1
  · cases h1
  · rename_i h2
    simp only [Tr.a_mk] at h2
    rw [if_neg (by simpa using hk)] at h1
    have h1 := of_decide_eq_true h1
    simp only [Tr.a_mk, Tr.ks_mk] at h1
    obtain ⟨h3, h4, h5, h6, h7, h8⟩ := h1
    exact ⟨by omega, by omega, by omega, h3, h4, h5, h6, h7, h8, fun x hx => shape_kid hh hx⟩
theorem shape_splitI {a : D} {ks : List Con} {d : Nat} (h1 : d ≤ 8) (h2 : 1 ≤ a.w) (h3 : a.w ≤ 1048576) (h4 : 1 ≤ a.k) (h5 : a.k ≤ 4) (h6 : a.c = 0) (h7 : a.s = 0) (h8 : ks.length ≤ 64) (h9 : d = 0 ∨ 0 < ks.length) (h : ∀ x ∈ ks, shape x (d + 1) = true) : shape (.mk a ks) d = true := by
  simp only [shape, Bool.and_eq_true]
  refine ⟨?_, shapeL_of h⟩
  unfold soundB
  rw [if_neg (by simp only [Tr.a_mk]; omega), if_neg (by simp only [Tr.a_mk]; omega)]
  exact decide_eq_true ⟨h4, h5, h6, h7, h8, h9⟩
/-- A tree is a split. -/
theorem tree_k {x : Con} (h : treeB x = true) : x.a.k ≠ 0 := tree_root h
/-- Another weight. -/
theorem shape_w {x : Con} {n : Int} {d : Nat} (h : shape x d = true) (h1 : 1 ≤ n) (h2 : n ≤ 1048576) : shape (.mk { x.a with w := n } x.ks) d = true := by
  obtain ⟨a, ks⟩ := x
  by_cases hk : a.k = 0
  · obtain ⟨p1, p2, p3, p4, p5, p6⟩ := leaf_shape h hk
    have hl := shape_leaf h hk
    simp only [Tr.a_mk, Tr.ks_mk] at *
    subst hl
    have := shape_leafI (w := n) p1 p2 h1 h2 p5 p6
    rw [← hk] at this
    exact this
  · obtain ⟨p1, p2, p3, p4, p5, p6, p7, p8, p9, p10⟩ := split_shape h hk
    exact shape_splitI (a := { a with w := n }) p1 h1 h2 p4 p5 p6 p7 p8 p9 p10
theorem tree_w {x y : Con} {u : List Nat} {n : Int} (h : treeB x = true) (hy : get x u = some y) (h1 : 1 ≤ n) (h2 : n ≤ 1048576) :
    treeB (put x u (.mk { y.a with w := n } y.ks)) = true ∧ clients (put x u (.mk { y.a with w := n } y.ks)) = clients x ∧ cnt (put x u (.mk { y.a with w := n } y.ks)) = cnt x := by
  have hs := shape_get (tree_parts h).1 hy
  rw [Nat.zero_add] at hs
  obtain ⟨h3, h4⟩ := tree_put (s' := .mk { y.a with w := n } y.ks) h hy (shape_w hs h1 h2) (clients_w rfl rfl)
  have h5 := cnt_put (s' := .mk { y.a with w := n } y.ks) hy
  have h6 : cnt (.mk { y.a with w := n } y.ks) = cnt y := by obtain ⟨a, ks⟩ := y; rw [cnt_mk, cnt_mk]; rfl
  exact ⟨h3, h4, by omega⟩
theorem wrap_tree {x : Con} {c k : Int} (h : treeB x = true) (h0 : (wrapI x c k).2 = 0) : treeB (wrapI x c k).1 = true ∧ clients (wrapI x c k).1 = clients x ∧ cnt (wrapI x c k).1 ≤ cnt x + 1 := by
  unfold wrapI at h0 ⊢
  by_cases hs : splitB k = true
  · rw [if_pos hs] at h0 ⊢
    have hk : 1 ≤ k ∧ k ≤ 4 := by unfold splitB at hs; simpa using hs
    rcases findI_spec (c := c) h with ⟨h1, _⟩ | ⟨_, u, hu, _⟩
    · rw [chgI_none h h1] at h0; exact absurd h0 (by decide)
    rw [chgI_some h hu] at h0 ⊢
    obtain ⟨v, j, p, y, rfl, hp, hpy, hy0, hyc, hy⟩ := id hu
    unfold wrapF at h0 ⊢
    rw [List.dropLast_concat, hp, hy] at h0 ⊢
    simp only at h0 ⊢
    have hsp := shape_get (tree_parts h).1 hp
    have hsy := shape_get (tree_parts h).1 hy
    rw [Nat.zero_add] at hsp hsy
    by_cases h1 : p.ks.length = 1
    · rw [if_pos h1] at h0 ⊢
      obtain ⟨a, ks⟩ := p
      have hk0 : a.k ≠ 0 := fun e => by have := shape_leaf hsp e; simp only [Tr.ks_mk] at this hpy; rw [this] at hpy; cases hpy
      obtain ⟨p1, p2, p3, p4, p5, p6, p7, p8, p9, p10⟩ := split_shape hsp hk0
      obtain ⟨h3, h4⟩ := tree_put (s' := .mk { a with k := k } ks) h hp (shape_splitI (a := { a with k := k }) p1 p2 p3 hk.1 hk.2 p6 p7 p8 p9 p10) (by rw [clients_mk hk0, clients_mk (a := { a with k := k }) (by simp only; omega)])
      have h5 := cnt_put (s' := .mk { a with k := k } ks) hp
      have h6 : cnt (.mk { a with k := k } ks) = cnt (.mk a ks) := by rw [cnt_mk, cnt_mk]
      exact ⟨h3, h4, by simp only [Tr.a_mk, Tr.ks_mk]; omega⟩
    · rw [if_neg h1] at h0 ⊢
      by_cases h8 : (v ++ [j]).length = 8
      · rw [if_pos h8] at h0; exact absurd h0 (by show ¬ (2 : Int) = 0; decide)
      · rw [if_neg h8] at h0 ⊢
        obtain ⟨q1, q2, q3, q4, q5, q6⟩ := leaf_shape hsy hy0
        have hyl := shape_leaf hsy hy0
        have e1 : (Tr.mk { y.a with w := 65536 } y.ks : Con) = .mk ⟨0, 65536, y.a.c, y.a.s⟩ [] := by rw [hyl]; obtain ⟨⟨k1, w1, c1, s1⟩, l⟩ := y; simp only [Tr.a_mk] at hy0 ⊢; subst hy0; rfl
        rw [e1]
        have hleaf := shape_leafI (w := 65536) (d := (v ++ [j]).length + 1) (by omega) (by omega) (by decide) (by decide) q5 q6
        obtain ⟨h3, h4⟩ := tree_put (s' := .mk ⟨k, y.a.w, 0, 0⟩ [.mk ⟨0, 65536, y.a.c, y.a.s⟩ []]) h hy (shape_splitI (a := ⟨k, y.a.w, 0, 0⟩) q1 q3 q4 hk.1 hk.2 rfl rfl (by simp) (by simp) (by intro t ht; rw [List.mem_singleton] at ht; subst ht; exact hleaf)) (by
          rw [clients_mk (a := ⟨k, y.a.w, 0, 0⟩) (by simp only; omega), clients_leaf hy0]
          simp only [List.flatMap_cons, List.flatMap_nil, List.append_nil]
          exact clients_leaf rfl)
        have h5 := cnt_put (s' := .mk ⟨k, y.a.w, 0, 0⟩ [.mk ⟨0, 65536, y.a.c, y.a.s⟩ []]) hy
        have h6 : cnt (.mk ⟨k, y.a.w, 0, 0⟩ [.mk ⟨0, 65536, y.a.c, y.a.s⟩ []] : Con) = 2 := by rw [cnt_mk]; simp only [cntL]; rw [cnt_mk]; rfl
        have h7 : cnt y = 1 := by obtain ⟨a, ks⟩ := y; simp only [Tr.ks_mk] at hyl; subst hyl; rw [cnt_mk]; rfl
        exact ⟨h3, h4, by simp only; omega⟩
  · rw [if_neg hs] at h0; exact absurd h0 (by decide)
/-- One step further up, where it is not the root. -/
theorem shape_up : ∀ (x : Con) (d : Nat), shape x (d + 1) = true → 0 < d → shape x d = true := by
  intro x
  induction x using Tr.ind with
  | h a ks ih =>
    intro d h hd
    by_cases hk : a.k = 0
    · obtain ⟨p1, p2, p3, p4, p5, p6⟩ := leaf_shape h hk
      have hl := shape_leaf h hk
      simp only [Tr.ks_mk, Tr.a_mk] at *
      subst hl
      have e : (Tr.mk a [] : Con) = .mk ⟨0, a.w, a.c, a.s⟩ [] := by rw [← hk]
      rw [e]
      exact shape_leafI (by omega) hd p3 p4 p5 p6
    · obtain ⟨p1, p2, p3, p4, p5, p6, p7, p8, p9, p10⟩ := split_shape h hk
      exact shape_splitI (by omega) p2 p3 p4 p5 p6 p7 p8 (.inr (by omega)) fun y hy => ih y hy (d + 1) (p10 y hy) (by omega)
theorem lessL_mem {c : Int} {y : Con} : ∀ {ks : List Con}, y ∈ lessL c ks → ∃ x ∈ ks, lessT c x = some y := by
  intro ks
  induction ks with
  | nil => intro h; cases h
  | cons x r ih =>
    intro h
    simp only [lessL, List.mem_append, Option.mem_toList] at h
    rcases h with h | h
    · exact ⟨x, by simp, h⟩
    · obtain ⟨z, hz, h⟩ := ih h
      exact ⟨z, by simp [hz], h⟩
theorem shape_less (c : Int) : ∀ (x : Con) (d : Nat) (y : Con), shape x d = true → 0 < d → lessT c x = some y → shape y d = true := by
  intro x
  induction x using Tr.ind with
  | h a ks ih =>
    intro d y h hd hy
    simp only [lessT] at hy
    by_cases hk : a.k = 0
    · rw [if_pos hk] at hy
      split at hy
      · cases hy
      · have hy := Option.some.inj hy; subst hy; exact h
    · rw [if_neg hk] at hy
      split at hy
      · have hy := Option.some.inj hy; subst hy; exact h
      · obtain ⟨p1, p2, p3, p4, p5, p6, p7, p8, p9, p10⟩ := split_shape h hk
        have hl : ∀ z ∈ lessL c ks, shape z (d + 1) = true := fun z hz => by
          obtain ⟨x, hx, e⟩ := lessL_mem hz
          exact ih x hx (d + 1) z (p10 x hx) (by omega) e
        have hn := lessL_len c ks
        unfold packT at hy
        split at hy
        · cases hy
        · rename_i h0
          split at hy
          · rename_i h1
            obtain ⟨z, hz, e⟩ := Option.map_eq_some_iff.1 hy
            subst e
            have hs := shape_up z d (hl z (List.mem_of_getElem? hz)) hd
            exact shape_w hs p2 p3
          · have hy := Option.some.inj hy; subst hy
            exact shape_splitI p1 p2 p3 p4 p5 p6 p7 (by omega) (.inr (by omega)) hl
theorem not_in {x : Con} {c : Int} (h : hasB x c = false) : c ∉ clients x := fun hm => by rw [hasB_iff.2 hm] at h; cases h
theorem filter_same {l : List Int} {c : Int} (h : c ∉ l) : l.filter (fun e => !(e == c)) = l := by
  rw [List.filter_eq_self]
  intro e he
  have : e ≠ c := fun h1 => h (h1 ▸ he)
  simp [this]
theorem clients_less (c : Int) : ∀ (x : Con), (lessT c x).toList.flatMap clients = (clients x).filter (fun e => !(e == c)) := by
  intro x
  induction x using Tr.ind with
  | h a ks ih =>
    have hL : ∀ l : List Con, (∀ x ∈ l, x ∈ ks) → (lessL c l).flatMap clients = (l.flatMap clients).filter (fun e => !(e == c)) := by
      intro l
      induction l with
      | nil => intro _; rfl
      | cons y r ihr =>
        intro hm
        simp only [lessL, List.flatMap_append, List.flatMap_cons, List.filter_append]
        rw [ih y (hm y (by simp)), ihr fun z hz => hm z (by simp [hz])]
    have hk0 := hL ks fun _ h => h
    simp only [lessT]
    by_cases hk : a.k = 0
    · rw [if_pos hk, clients_leaf (y := .mk a ks) hk]
      by_cases hc : a.c = c
      · rw [if_pos hc]; simp [hc]
      · rw [if_neg hc]; simp [hc, clients_leaf (y := .mk a ks) hk]
    · rw [if_neg hk]
      by_cases hh : hasB (.mk a ks) c = false
      · rw [if_pos hh, filter_same (not_in hh)]; simp
      · rw [if_neg hh, clients_mk hk, ← hk0]
        unfold packT
        by_cases h0 : (lessL c ks).length = 0
        · rw [if_pos h0, List.eq_nil_of_length_eq_zero h0]; rfl
        · rw [if_neg h0]
          by_cases h1 : (lessL c ks).length = 1
          · rw [if_pos h1]
            obtain ⟨z, hz⟩ := List.length_eq_one_iff.1 h1
            rw [hz]
            simp only [List.getElem?_cons_zero, Option.map_some, Option.toList_some, List.flatMap_cons, List.flatMap_nil, List.append_nil]
            exact clients_w rfl rfl
          · rw [if_neg h1]
            simp only [Option.toList_some, List.flatMap_cons, List.flatMap_nil, List.append_nil]
            exact clients_mk hk
theorem cnt_w (z : Con) (n : Int) : cnt (.mk { z.a with w := n } z.ks) = cnt z := by obtain ⟨b, l⟩ := z; rw [cnt_mk, cnt_mk]; rfl
theorem cnt_less (c : Int) : ∀ (x : Con), cntL (lessT c x).toList ≤ cnt x := by
  intro x
  induction x using Tr.ind with
  | h a ks ih =>
    have hL : ∀ l : List Con, (∀ x ∈ l, x ∈ ks) → cntL (lessL c l) ≤ cntL l := by
      intro l
      induction l with
      | nil => intro _; exact Nat.le_refl _
      | cons y r ihr =>
        intro hm
        simp only [lessL, cntL_append, cntL]
        have := ih y (hm y (by simp))
        have := ihr fun z hz => hm z (by simp [hz])
        omega
    have hk0 := hL ks fun _ h => h
    have hs : cntL [Tr.mk a ks] = cnt (.mk a ks) := by simp [cntL]
    simp only [lessT]
    split
    · split
      · simp [cntL]
      · rw [Option.toList_some, hs]; exact Nat.le_refl _
    · split
      · rw [Option.toList_some, hs]; exact Nat.le_refl _
      · rw [cnt_mk]
        unfold packT
        split
        · simp [cntL]
        · split
          · rename_i h1
            obtain ⟨z, hz⟩ := List.length_eq_one_iff.1 h1
            rw [hz] at hk0 ⊢
            simp only [List.getElem?_cons_zero, Option.map_some, Option.toList_some, cntL] at hk0 ⊢
            refine Nat.le_trans (Nat.le_of_eq (Nat.add_zero _)) (Nat.le_trans (Nat.le_of_eq (cnt_w z a.w)) ?_)
            omega
          · simp only [Option.toList_some, cntL, cnt_mk]; omega
theorem cntL_less (c : Int) (ks : List Con) : cntL (lessL c ks) ≤ cntL ks := by
  induction ks with
  | nil => exact Nat.le_refl _
  | cons y r ih => simp only [lessL, cntL_append, cntL]; have := cnt_less c y; omega
theorem clientsL_less (c : Int) (ks : List Con) : (lessL c ks).flatMap clients = (ks.flatMap clients).filter (fun e => !(e == c)) := by
  induction ks with
  | nil => rfl
  | cons y r ih => simp only [lessL, List.flatMap_append, List.flatMap_cons, List.filter_append]; rw [clients_less, ih]
theorem remove_tree {x : Con} {c : Int} (h : treeB x = true) : treeB (.mk x.a (lessL c x.ks)) = true ∧ clients (.mk x.a (lessL c x.ks)) = (clients x).filter (fun e => !(e == c)) ∧ cnt (.mk x.a (lessL c x.ks)) ≤ cnt x := by
  have hk := tree_k h
  obtain ⟨h1, h2, h3⟩ := tree_parts h
  obtain ⟨a, ks⟩ := x
  simp only [Tr.a_mk, Tr.ks_mk] at hk ⊢
  obtain ⟨p1, p2, p3, p4, p5, p6, p7, p8, p9, p10⟩ := split_shape h1 hk
  have hcl : clients (.mk a (lessL c ks)) = (clients (.mk a ks)).filter (fun e => !(e == c)) := by rw [clients_mk hk, clients_mk hk, clientsL_less]
  have hlen := lessL_len c ks
  refine ⟨tree_of (shape_splitI p1 p2 p3 p4 p5 p6 p7 (by omega) (.inl rfl) fun y hy => ?_) (by rw [hcl]; exact h2.filter _) (by rw [← clients_len, hcl]; have := List.length_filter_le (fun e => !(e == c)) (clients (.mk a ks)); rw [clients_len] at this; omega), hcl, ?_⟩
  · obtain ⟨z, hz, e⟩ := lessL_mem hy
    exact shape_less c z 1 y (p10 z hz) (by omega) e
  · rw [cnt_mk, cnt_mk]; have := cntL_less c ks; omega
theorem filter_one {l : List Int} {c : Int} (h : l.Nodup) (hc : c ∈ l) : (l.filter (fun e => !(e == c))).length + 1 = l.length := by
  have e : l.filter (fun e => !(e == c)) = l.erase c := (List.Nodup.erase_eq_filter h c).symm
  rw [e, List.length_erase_of_mem hc]
  have := List.length_pos_of_mem hc
  omega
end Go.Proofs.Ytbbmfpdlkogkfaa.Co
end
section
namespace Go.Proofs.Ytbbmfpdlkogkfaa.Co
open Go.RowKit Go.Shelf
theorem insert_spot {x : Con} {near : Int} (h : treeB x = true) (hn : near = 0 ∨ hasB x near = true) : ∃ v i p, insSpot x near = (v, i) ∧ get x v = some p ∧ i ≤ p.ks.length ∧ v.length ≤ 7 ∧ p.a.k ≠ 0 := by
  by_cases h0 : near = 0
  · exact ⟨[], x.ks.length, x, by unfold insSpot; rw [if_pos h0], rfl, Nat.le_refl _, by simp, tree_k h⟩
  · have hh : hasB x near = true := by
      rcases hn with h1 | h1
      · exact absurd h1 h0
      · exact h1
    rcases findI_spec (c := near) h with ⟨h1, _⟩ | ⟨_, u, hu, _⟩
    · rw [hh] at h1; cases h1
    · obtain ⟨v, j, p, y, rfl, hp, hy, hy0, _, hg⟩ := id hu
      have hs := shape_get (tree_parts h).1 hg
      rw [Nat.zero_add] at hs
      have hs2 := shape_get (tree_parts h).1 hp
      obtain ⟨q1, _⟩ := leaf_shape hs hy0
      refine ⟨v, j + 1, p, ?_, hp, ?_, ?_, fun e => ?_⟩
      · unfold insSpot; rw [if_neg h0, findI_of h hu]; simp
      · have := (List.getElem?_eq_some_iff.1 hy).1; omega
      · simp at q1; omega
      · have := shape_leaf hs2 e
        rw [this] at hy; cases hy
theorem clients_leafC (c se : Int) : clients (leafC c se) = [c] := clients_leaf rfl
theorem less_leafC (c se : Int) : lessT c (leafC c se) = none := by unfold leafC; simp [lessT]
theorem no_kid {a : D} {ks : List Con} {c : Int} (hk : a.k ≠ 0) (h : hasB (.mk a ks) c = false) : ∀ z ∈ ks, hasB z c = false := fun z hz => by
  have h1 := not_in h
  rw [clients_mk hk] at h1
  rw [← Bool.not_eq_true]
  intro h2
  exact h1 (List.mem_flatMap.2 ⟨z, hz, hasB_iff.1 h2⟩)
theorem back_less {c se : Int} : ∀ (v : List Nat) (x p : Con) (i d : Nat), shape x d = true → hasB x c = false → x.a.k ≠ 0 → get x v = some p → p.a.k ≠ 0 → singleL x.ks (d + 1) = false →
    lessL c (put x v (.mk p.a (p.ks.take i ++ leafC c se :: p.ks.drop i))).ks = x.ks ∧ (put x v (.mk p.a (p.ks.take i ++ leafC c se :: p.ks.drop i))).a = x.a := by
  intro v
  induction v with
  | nil =>
    intro x p i d h hc hk hp _ _
    simp only [get] at hp
    have hp := Option.some.inj hp
    subst hp
    simp only [put, Tr.a_mk, Tr.ks_mk, and_true]
    have hno := no_kid (a := x.a) (ks := x.ks) hk (by rw [Tr.eta]; exact hc)
    rw [lessL_append]
    simp only [lessL, less_leafC, Option.toList_none, List.nil_append]
    rw [lessL_same fun z hz => hno z (List.mem_of_mem_take hz), lessL_same fun z hz => hno z (List.mem_of_mem_drop hz), List.take_append_drop]
  | cons j r ih =>
    intro x p i d h hc hk hp hpk hs
    obtain ⟨a, ks⟩ := x
    obtain ⟨z, hz, hr⟩ := get_consP hp
    have hzm := List.mem_of_getElem? hz
    have hsz := shape_kid h hzm
    have hno := no_kid hk hc
    have hzk : z.a.k ≠ 0 := by
      cases r with
      | nil => simp only [get] at hr; have hr := Option.some.inj hr; subst hr; exact hpk
      | cons q s =>
        intro e
        have := shape_leaf hsz e
        obtain ⟨b, l⟩ := z
        obtain ⟨_, h2, _⟩ := get_consP hr
        simp only [Tr.ks_mk] at this
        rw [this] at h2; cases h2
    have hs1 : singleC z (d + 1) = false := by
      obtain ⟨e1, _⟩ := split_at hz
      simp only [Tr.ks_mk] at hs
      rw [e1, singleL_append] at hs
      simp only [singleL, Bool.or_eq_false_iff] at hs
      exact hs.2.1
    have hs2 : z.ks.length ≠ 1 ∧ singleL z.ks (d + 1 + 1) = false := by
      obtain ⟨b, l⟩ := z
      simp only [singleC, Bool.or_eq_false_iff, Bool.and_eq_false_iff, decide_eq_false_iff_not] at hs1
      refine ⟨?_, hs1.2⟩
      rcases hs1.1 with h1 | h1
      · omega
      · exact h1
    obtain ⟨h1, h2⟩ := ih z p i (d + 1) hsz (hno z hzm) hzk hr hpk hs2.2
    obtain ⟨z', hz'⟩ : ∃ z', z' = put z r (.mk p.a (p.ks.take i ++ leafC c se :: p.ks.drop i)) := ⟨_, rfl⟩
    rw [← hz'] at h1 h2
    have hcz : hasB z' c = true := by
      obtain ⟨l1, l2, _, e2⟩ := clients_put hsz hr
      have := e2 (.mk p.a (p.ks.take i ++ leafC c se :: p.ks.drop i))
      rw [← hz'] at this
      refine hasB_iff.2 ?_
      rw [this, clients_mk hpk, List.flatMap_append, List.flatMap_cons, clients_leafC]
      simp
    rw [put_consI hz, ← hz']
    simp only [Tr.ks_mk, Tr.a_mk, and_true]
    obtain ⟨e1, e2⟩ := split_at hz
    rw [e2 z', lessL_append]
    simp only [lessL]
    have hl : lessT c z' = some z := by
      obtain ⟨b, l⟩ := z'
      simp only [Tr.ks_mk, Tr.a_mk] at h1 h2
      subst h2
      obtain ⟨zb, zl⟩ := z
      simp only [Tr.a_mk, Tr.ks_mk] at *
      obtain ⟨p1, p2, p3, p4, p5, p6, p7, p8, p9, p10⟩ := split_shape hsz hzk
      simp only [lessT]
      rw [if_neg hzk, if_neg (by rw [hcz]; simp), h1]
      unfold packT
      rw [if_neg (by omega), if_neg hs2.1]
    rw [hl, lessL_same fun y hy => hno y (List.mem_of_mem_take hy), lessL_same fun y hy => hno y (List.mem_of_mem_drop hy)]
    exact e1.symm
theorem insert_tree {x : Con} {near c se : Int} (h0 : (insertI x near c se).2 = 0) : treeB x = true ∧ hasB x c = false ∧ treeB (insertI x near c se).1 = true ∧
    (∃ l1 l2, clients x = l1 ++ l2 ∧ clients (insertI x near c se).1 = l1 ++ c :: l2) ∧ cnt (insertI x near c se).1 = cnt x + 1 ∧ (singleC x 0 = false → Tr.mk (insertI x near c se).1.a (lessL c (insertI x near c se).1.ks) = x) := by
  unfold insertI at h0 ⊢
  by_cases g1 : treeB x = false
  · rw [if_pos g1] at h0; exact absurd h0 (by decide)
  rw [if_neg g1] at h0 ⊢
  have ht : treeB x = true := by simpa using g1
  by_cases g2 : hasB x c = true
  · rw [if_pos g2] at h0; exact absurd h0 (by decide)
  rw [if_neg g2] at h0 ⊢
  have hc : hasB x c = false := by simpa using g2
  by_cases g3 : c < 1 ∨ se < 0
  · rw [if_pos g3] at h0; exact absurd h0 (by decide)
  rw [if_neg g3] at h0 ⊢
  by_cases g4 : near ≠ 0 ∧ hasB x near = false
  · rw [if_pos g4] at h0; exact absurd h0 (by decide)
  rw [if_neg g4] at h0 ⊢
  obtain ⟨v, i, p, hsp, hp, hi, hv, hpk⟩ := insert_spot (near := near) ht (by
    by_cases e : near = 0
    · exact .inl e
    · right; simpa [e] using g4)
  rw [hsp] at h0 ⊢
  simp only at h0 ⊢
  rw [hp] at h0 ⊢
  simp only at h0 ⊢
  by_cases g5 : p.ks.length = 64 ∨ (all x).length = 128
  · rw [if_pos g5] at h0; exact absurd h0 (by decide)
  rw [if_neg g5] at h0 ⊢
  simp only
  obtain ⟨t1, t2, t3⟩ := tree_parts ht
  have hsh := shape_get t1 hp
  rw [Nat.zero_add] at hsh
  obtain ⟨a, ks⟩ := p
  simp only [Tr.a_mk, Tr.ks_mk] at *
  obtain ⟨p1, p2, p3, p4, p5, p6, p7, p8, p9, p10⟩ := split_shape hsh hpk
  have hlen : (ks.take i ++ leafC c se :: ks.drop i).length = ks.length + 1 := by simp; omega
  have hnew : shape (.mk a (ks.take i ++ leafC c se :: ks.drop i)) v.length = true := by
    refine shape_splitI p1 p2 p3 p4 p5 p6 p7 (by omega) (.inr (by omega)) fun y hy => ?_
    rw [List.mem_append, List.mem_cons] at hy
    rcases hy with hy | rfl | hy
    · exact p10 y (List.mem_of_mem_take hy)
    · exact shape_leafI (by omega) (by omega) (by decide) (by decide) (by omega) (by omega)
    · exact p10 y (List.mem_of_mem_drop hy)
  have hcl : clients (.mk a (ks.take i ++ leafC c se :: ks.drop i)) = (ks.take i).flatMap clients ++ c :: (ks.drop i).flatMap clients := by
    rw [clients_mk hpk, List.flatMap_append, List.flatMap_cons, clients_leafC]; rfl
  have hcp : clients (.mk a ks) = (ks.take i).flatMap clients ++ (ks.drop i).flatMap clients := by
    rw [clients_mk hpk, ← List.flatMap_append, List.take_append_drop]
  obtain ⟨l1, l2, e1, e2⟩ := clients_put t1 hp
  have E1 : clients x = (l1 ++ (ks.take i).flatMap clients) ++ ((ks.drop i).flatMap clients ++ l2) := by rw [e1, hcp]; simp
  have E2 : clients (put x v (.mk a (ks.take i ++ leafC c se :: ks.drop i))) = (l1 ++ (ks.take i).flatMap clients) ++ c :: ((ks.drop i).flatMap clients ++ l2) := by rw [e2, hcl]; simp
  have hcn := not_in hc
  have hperm := List.perm_middle (a := c) (l₁ := l1 ++ (ks.take i).flatMap clients) (l₂ := (ks.drop i).flatMap clients ++ l2)
  rw [← E1, ← E2] at hperm
  refine ⟨ht, hc, tree_of (shape_put t1 hp (by simpa using hnew)) (hperm.nodup_iff.2 (List.nodup_cons.2 ⟨hcn, t2⟩)) ?_, ⟨_, _, E1, E2⟩, ?_, fun hsg => ?_⟩
  · rw [← clients_len, hperm.length_eq, List.length_cons, clients_len]; omega
  · have k1 := cnt_put (s' := .mk a (ks.take i ++ leafC c se :: ks.drop i)) hp
    have k2 : cnt (.mk a (ks.take i ++ leafC c se :: ks.drop i)) = cnt (.mk a ks) + 1 := by
      rw [cnt_mk, cnt_mk, cntL_append]
      have e : cntL ks = cntL (ks.take i) + cntL (ks.drop i) := by rw [← cntL_append, List.take_append_drop]
      have e3 : cnt (leafC c se) = 1 := by unfold leafC; rw [cnt_mk]; rfl
      simp only [cntL]
      omega
    omega
  · have hsl : singleL x.ks 1 = false := by
      obtain ⟨b, l⟩ := x
      simp only [singleC, Bool.or_eq_false_iff] at hsg
      exact hsg.2
    obtain ⟨k1, k2⟩ := back_less (c := c) (se := se) v x (.mk a ks) i 0 t1 hc (tree_k ht) hp hpk hsl
    simp only [Tr.a_mk, Tr.ks_mk] at k1 k2
    rw [k1, k2, Tr.eta]
theorem leaves_clients {x : Con} (h : treeB x = true) : leavesI x = clients x := by unfold leavesI clients cl; rw [if_pos h]
theorem filter_mid {l1 l2 : List Int} {c : Int} (h : c ∉ l1 ++ l2) : (l1 ++ c :: l2).filter (fun e => !(e == c)) = l1 ++ l2 := by
  rw [List.mem_append, not_or] at h
  rw [List.filter_append, filter_same h.1, List.filter_cons]
  simp [filter_same h.2]
end Go.Proofs.Ytbbmfpdlkogkfaa.Co
end
section
namespace Go.Proofs.Ytbbmfpdlkogkfaa.Co
open Go.RowKit Go.Shelf
theorem RZ.seen {w : World} {Z : Nat → Prop} : ∀ {l : List Con} {vs : List Value} {j : Nat} {y : Con}, RZ w Z l vs → l[j]? = some y → vs[j * 5 + 3]? = some (.int .i64 y.a.s) := by
  intro l
  induction l with
  | nil => intro vs j y _ h; simp at h
  | cons x r ih =>
    intro vs j y ⟨sv, rest, h1, _, h4⟩ h
    cases j with
    | zero => simp at h; subst h; rw [h1]; rfl
    | succ j =>
      have := ih h4 (by simpa using h)
      rw [h1, List.getElem?_append_right (by rw [enc_len]; omega), enc_len, show (j + 1) * 5 + 3 - 5 = j * 5 + 3 by omega]
      exact this
theorem leaf_seen {x y : Con} (h : treeB x = true) (hy : y ∈ all x) : 0 ≤ y.a.s := by
  obtain ⟨u, hu, hk⟩ := all_get x y hy
  have hs := shape_get (tree_parts h).1 hu
  obtain ⟨a, ks⟩ := y
  simp only [shape, Bool.and_eq_true] at hs
  have h1 := hs.1
  simp only [Tr.a_mk] at hk
  unfold soundB at h1
  split at h1
  · cases h1
  · simp [hk] at h1; exact h1.2.2.1
theorem top_step {l : List Con} {i : Nat} {x : Con} (hx : l[i]? = some x) (s : Int × Int) (hs : (l.take i).foldl topF (0, -1) = s) : (l.take (i + 1)).foldl topF (0, -1) = topF s x := by
  obtain ⟨h1, h2⟩ := List.getElem?_eq_some_iff.1 hx
  rw [List.take_succ_eq_append_getElem h1, List.foldl_append, hs, h2]; rfl
/-- The cells that Top reads. -/
def Seen (l : List Con) (p : Option Addr) (w : World) : Prop := ∀ (j : Nat) (y : Con), l[j]? = some y → ∃ g, p = some ⟨g, 0, none⟩ ∧ w.cell? ⟨g, j * 5 + 2, none⟩ = some (.int .i64 y.a.c) ∧ w.cell? ⟨g, j * 5 + 3, none⟩ = some (.int .i64 y.a.s)
theorem RowR.seen {Z : Nat → Prop} {B : Nat} {l : List Con} {p : Option Addr} {n c : Nat} {w : World} (h : RowR Z B l (.slice p n c) w) : Seen l p w := fun j y hy => by
  obtain ⟨vs, ho, hz, -⟩ := h
  obtain ⟨g, cg, hgv, hg1, hg2⟩ := ho.form (by have := (List.getElem?_eq_some_iff.1 hy).1; omega)
  injection hgv with e1 e2 e3
  subst e1 e2 e3
  have h1 := ho.cells (g := g) rfl (j * 5 + 2) _ (hz.client hy)
  have h2 := ho.cells (g := g) rfl (j * 5 + 3) _ (hz.seen hy)
  exact ⟨g, rfl, by simpa [Addr.add] using h1, by simpa [Addr.add] using h2⟩
set_option maxHeartbeats 4000000 in
theorem TopR_c (Z : Nat → Prop) (x : Con) (sv : Value) (w : World) (hK : KV w Z x.ks sv) (hd : (all x).length ≤ 1000000) (hZ : ∀ b, Z b → b < w.heap.size) :
    Calls Try.prog 30 #[conV x.a sv] w fun e w' => e = .returned (.int .i64 (topI x)) ∧ Below w.heap.size w w' := by
  obtain ⟨p, cap, rfl, hl⟩ := hK.slice
  obtain ⟨m, hm⟩ : ∃ m, m = x.ks.length := ⟨_, rfl⟩
  rw [← hm] at hK ⊢
  obtain ⟨r, hr⟩ : ∃ r, r = topI x := ⟨_, rfl⟩
  rw [← hr]
  obtain ⟨R, hR⟩ : ∃ R, R = fun (e : Ending) (w' : World) => e = .returned (.int .i64 r) ∧ Below w.heap.size w w' := ⟨_, rfl⟩
  have hRe : ∀ e w', R e w' ↔ (e = .returned (.int .i64 r) ∧ Below w.heap.size w w') := by rw [hR]; exact fun _ _ => Iff.rfl
  rw [← hR]
  have HR := Lib.hid hRe
  have hb0 := (Below.refl w.heap.size w).alloc (Nat.le_refl _) (.cells #[.int .i64 x.a.k, .int .i64 x.a.w, .int .i64 x.a.c, .int .i64 x.a.s, .slice p m cap] 24)
  have HQ := Lib.hid (Blk.new w 24 #[.int .i64 x.a.k, .int .i64 x.a.w, .int .i64 x.a.c, .int .i64 x.a.s, .slice p m cap])
  have HC := Lib.hid (CheckR_c Z x (.slice p m cap) _ (hK.next hb0) hd (fun b h => Nat.lt_of_lt_of_le (hZ b h) hb0.size))
  have HA := Lib.hid (fun (W : World) (h : Below w.heap.size w W) => All_c Z x (.slice p m cap) W (hK.next h) hd (fun b hb => Nat.lt_of_lt_of_le (hZ b hb) h.size))
  have HB := Lib.hid hb0
  rw [checkI_eq] at HC
  cases htr : treeB x
  · have HT : Hid (r = 0) := by rw [hr]; unfold topI; rw [htr]; rfl
    rw [if_pos htr] at HC
    clear htr hm hr hR hRe hb0 hK hZ hl HA hd
    show Calls Try.prog 30 #[.agg #[.int .i64 x.a.k, .int .i64 x.a.w, .int .i64 x.a.c, .int .i64 x.a.s, .slice p m cap]] w R
    go_enter Try.func30, Try.ntmps30
    go_wp2_with fail
    refine HC.out.mono ?_
    rintro e w1 ⟨rfl, hb⟩
    have HB1 := Lib.hid (HB.out.trans (hb.mono HB.out.size))
    clear hb
    go_wp2_with fail
    refine (HR.out _ _).2 ⟨?_, HB1.out⟩
    rw [HT.out]; rfl
  · rw [if_neg (by rw [htr]; decide)] at HC
    have HSE := Lib.hid (fun (y : Con) (hy : y ∈ all x) => leaf_seen htr hy)
    obtain ⟨l, hl2⟩ : ∃ l, l = all x := ⟨_, rfl⟩
    have HT : Hid (r = (l.foldl topF (0, -1)).1) := by rw [hr, hl2]; unfold topI; rw [if_pos htr]; exact rfl
    rw [← hl2] at HA hd HSE
    clear htr hm hr hR hRe hb0 hK hZ hl hl2
    show Calls Try.prog 30 #[.agg #[.int .i64 x.a.k, .int .i64 x.a.w, .int .i64 x.a.c, .int .i64 x.a.s, .slice p m cap]] w R
    go_enter Try.func30, Try.ntmps30
    go_wp2_with fail
    refine HC.out.mono ?_
    rintro e w1 ⟨rfl, hb⟩
    have HB1 := Lib.hid (HB.out.trans (hb.mono HB.out.size))
    obtain ⟨⟨b0, b1, b2, b3, b4⟩, -⟩ := c5 (HQ.out.next hb)
    clear hb HB HC HQ
    go_wp2_with fail
    refine (HA.out w1 HB1.out).mono ?_
    rintro e w2 ⟨hb, v, rfl, hrow⟩
    obtain ⟨pv, cv, rfl⟩ := hrow.slice
    have hse := hrow.seen
    have HB2 := Lib.hid (HB1.out.trans (hb.mono HB1.out.size))
    obtain ⟨n, hn⟩ : ∃ n, n = l.length := ⟨_, rfl⟩
    rw [← hn] at hd ⊢
    have HN := Lib.hid hn
    have HSN := Lib.hid hse
    clear hb hrow HA hn HB1 b0 b1 b2 b3 b4 hse
    go_wp2_with fail
    go_loopw [4, 5] (fun zb zi wr => ∃ i best : Nat, zi = .int .i64 i ∧ zb = .int .i64 best ∧ 1 ≤ i ∧ (i ≤ n ∨ i = 1) ∧ Below w.heap.size w wr ∧ Seen l pv wr ∧ Asd (i ≤ n → ∃ b, l[best]? = some b ∧ (l.take i).foldl topF (0, -1) = (b.a.c, b.a.s))) (fun _ zi _ => n - (intOf zi).toNat)
    case atStart =>
      refine ⟨1, 0, rfl, rfl, Nat.le_refl _, .inr rfl, HB2.out, HSN.out, fun h => ?_⟩
      obtain ⟨y, hy⟩ : ∃ y, l[0]? = some y := ⟨_, List.getElem?_eq_getElem (by rw [← HN.out]; omega)⟩
      refine ⟨y, hy, ?_⟩
      rw [top_step hy (0, -1) rfl]
      unfold topF
      rw [if_pos]
      have := HSE.out y (List.mem_of_getElem? hy)
      show (-1 : Int) < y.a.s
      omega
    case round =>
      clear HB2 HSN
      obtain ⟨i, best, rfl, rfl, hi1, hin, hW, hse, hbs⟩ := hrel
      have HSO := Lib.hid (show i ≤ n → ∃ b, l[best]? = some b ∧ (l.take i).foldl topF (0, -1) = (b.a.c, b.a.s) from hbs)
      have HW := Lib.hid hW
      have HSE2 := Lib.hid hse
      clear hbs hW
      by_cases hlt : i < n
      · obtain ⟨b, hb, hf⟩ := HSO.out (by omega)
        obtain ⟨y, hy⟩ : ∃ y, l[i]? = some y := ⟨_, List.getElem?_eq_getElem (by rw [← HN.out]; exact hlt)⟩
        obtain ⟨g, rfl, -, ci⟩ := hse i y hy
        obtain ⟨g', e, -, cb⟩ := hse best b hb
        injection e with e
        injection e with e
        subst e
        have hbn : best < n := by rw [HN.out]; exact (List.getElem?_eq_some_iff.1 hb).1
        have HST := Lib.hid (top_step hy _ hf)
        have HBB := Lib.hid hb
        have HYY := Lib.hid hy
        have HFF := Lib.hid hf
        clear hse hb hy hf
        by_cases hc : b.a.s < y.a.s
        · have HI : Hid (topF (b.a.c, b.a.s) y = (y.a.c, y.a.s)) := by unfold topF; exact if_pos hc
          go_wp2_with fail
          go_quiet (fail)
          go_wp2_with fail
          refine ⟨⟨i + 1, i, by go_num, by go_num, by omega, .inl (by omega), below_drewN HW.out _, fun j q h => HSE2.out j q h, fun _ => ⟨y, HYY.out, ?_⟩⟩, by simp [intOf]; omega⟩
          rw [HST.out, HI.out]
        · have HI : Hid (topF (b.a.c, b.a.s) y = (b.a.c, b.a.s)) := by unfold topF; exact if_neg hc
          go_wp2_with fail
          go_quiet (fail)
          go_wp2_with fail
          refine ⟨⟨i + 1, best, by go_num, by go_num, by omega, .inl (by omega), below_drewN HW.out _, fun j q h => HSE2.out j q h, fun _ => ⟨b, HBB.out, ?_⟩⟩, by simp [intOf]; omega⟩
          rw [HST.out, HI.out]
      · by_cases hn0 : n = 0
        · have HT2 : Hid (r = 0) := by rw [HT.out, show l = [] from List.length_eq_zero_iff.1 (by rw [← HN.out]; exact hn0)]; rfl
          subst hn0
          clear hse
          go_wp2_with fail
          refine (HR.out _ _).2 ⟨?_, HW.out⟩
          rw [HT2.out]; rfl
        · obtain ⟨b, hb, hf⟩ := HSO.out (by omega)
          obtain ⟨g, rfl, cc, -⟩ := hse best b hb
          have hbn : best < n := by rw [HN.out]; exact (List.getElem?_eq_some_iff.1 hb).1
          have HT2 : Hid (r = b.a.c) := by
            rw [HT.out]
            rw [List.take_of_length_le (by have := HN.out; omega)] at hf
            rw [hf]; exact rfl
          clear hse hb hf
          go_wp2_with fail
          refine (HR.out _ _).2 ⟨?_, HW.out⟩
          rw [HT2.out]; rfl
end Go.Proofs.Ytbbmfpdlkogkfaa.Co
end
section
namespace Go.Proofs.Ytbbmfpdlkogkfaa.Co
open Go.RowKit Go.Shelf
/-- A slice that reads as these numbers. -/
def RI (w : World) (l : List Int) (v : Value) : Prop := ∃ p c, v = .slice p l.length c ∧ ∀ (k : Nat) (u : Int), l[k]? = some u → ∃ g o, p = some ⟨g, o, none⟩ ∧ g < w.heap.size ∧ w.cell? ⟨g, o + k, none⟩ = some (.int .i64 u)
theorem RI.next {w w' : World} {l : List Int} {v : Value} (h : RI w l v) (hb : Below w.heap.size w w') : RI w' l v := by
  obtain ⟨p, c, h1, h2⟩ := h
  refine ⟨p, c, h1, fun k u hu => ?_⟩
  obtain ⟨g, o, h3, h4, h5⟩ := h2 k u hu
  exact ⟨g, o, h3, Nat.lt_of_lt_of_le h4 hb.size, (cell_same (hb.block g h4) _).trans h5⟩
def natsZ (u : List Nat) : List Int := u.map fun i : Nat => (i : Int)
theorem natsZ_at {u : List Nat} {k : Nat} {z : Int} (h : (natsZ u)[k]? = some z) : ∃ i : Nat, u[k]? = some i ∧ z = (i : Int) := by
  unfold natsZ at h
  rw [List.getElem?_map] at h
  obtain ⟨i, h1, h2⟩ := Option.map_eq_some_iff.1 h
  exact ⟨i, h1, h2.symm⟩
theorem RI.wi {w : World} {u : List Nat} {v : Value} (h : WI w u v) : RI w (natsZ u) v := by
  obtain ⟨p, c, h1, -, -, h2⟩ := h
  refine ⟨p, c, by rw [h1]; unfold natsZ; rw [List.length_map], fun k z hz => ?_⟩
  obtain ⟨i, hi, rfl⟩ := natsZ_at hz
  exact h2 k i hi
theorem RI.wv {w : World} {Y : Nat → Prop} {u : List Nat} {v : Value} (h : WV w Y u v) : RI w (natsZ u) v := by
  obtain ⟨p, c, h1, -, -, -, h3, h2⟩ := h
  refine ⟨p, c, by rw [h1]; unfold natsZ; rw [List.length_map], fun k z hz => ?_⟩
  obtain ⟨i, hi, rfl⟩ := natsZ_at hz
  obtain ⟨b, rfl, h4⟩ := h2 k i hi
  obtain ⟨b', e, h5, -⟩ := h3 _ rfl
  injection e with e
  subst e
  exact ⟨b, 0, rfl, h5, by rwa [Nat.zero_add]⟩
theorem RI.nil (w : World) : RI w [] (.slice none 0 0) := ⟨none, 0, rfl, fun k u h => by simp at h⟩
theorem RI.own {w : World} {B : Nat} {l : List Int} {v : Value} (h : w.ownsRow B 3 1 v l.length (l.map (Value.int .i64))) : RI w l v := by
  obtain ⟨h1, h2⟩ := h
  rcases h2 with ⟨rfl, h3⟩ | ⟨g, cap, cur, rfl, -, h4, h5, h6, h7, h8⟩
  · have := List.length_eq_zero_iff.1 h3
    subst this
    exact RI.nil w
  · refine ⟨_, cap, rfl, fun k u hu => ?_⟩
    have hk := (List.getElem?_eq_some_iff.1 hu).1
    have hc : World.cell? w ⟨g, k, none⟩ = some (.int .i64 u) := by
      have h9 : (cur.toList.take (l.length * 1))[k]? = some (.int .i64 u) := by rw [h8, List.getElem?_map, hu]; rfl
      rw [List.getElem?_take_of_lt (by omega)] at h9
      simp only [World.cell?, h4]
      simpa using h9
    exact ⟨g, 0, rfl, World.block_lt_of_cell? w _ hc, by rwa [Nat.zero_add]⟩
theorem same_list {α : Type} {a b : List α} (hl : a.length = b.length) (h : ∀ j, j < a.length → a[j]? = b[j]?) : a = b := by
  apply List.ext_getElem?
  intro j
  rcases Nat.lt_or_ge j a.length with hj | hj
  · exact h j hj
  · rw [List.getElem?_eq_none hj, List.getElem?_eq_none (by omega)]

set_option maxHeartbeats 2000000 in
theorem ints_c (va vb : Value) (a b : List Int) (w : World) (ha : RI w a va) (hb : RI w b vb) (hla : a.length ≤ 1048576) (hlb : b.length ≤ 1048576) :
    Calls Try.prog 26 #[va, vb] w fun e w' => e = .returned (.bool (decide (a = b))) ∧ Below w.heap.size w w' := by
  obtain ⟨p, c, rfl, ha'⟩ := ha
  obtain ⟨p', c', rfl, hb'⟩ := hb
  have HA := Lib.hid ha'
  have HB := Lib.hid hb'
  obtain ⟨n, hn⟩ : ∃ n, n = a.length := ⟨_, rfl⟩
  obtain ⟨n', hn'⟩ : ∃ n', n' = b.length := ⟨_, rfl⟩
  rw [← hn] at hla
  rw [← hn'] at hlb
  rw [← hn, ← hn']
  have HN := Lib.hid hn
  have HN' := Lib.hid hn'
  clear ha' hb' hn hn'
  by_cases hnn : n = n'
  · subst hnn
    go_enter Try.func26, Try.ntmps26
    go_wp2_with fail
    go_loopw [5] (fun v wr => ∃ k q : Nat, k ≤ n ∧ v = .int .i64 k ∧ wr = w.drewN q ∧ Asd (∀ j, j < k → a[j]? = b[j]?)) (fun v _ => n - (intOf v).toNat)
    case atStart => exact ⟨0, 0, Nat.zero_le _, rfl, rfl, fun j hj => absurd hj (Nat.not_lt_zero _)⟩
    case round =>
      obtain ⟨k, q, hk, rfl, rfl, hA⟩ := hrel
      have HS := Lib.hid (show ∀ j, j < k → a[j]? = b[j]? from hA)
      clear hA
      by_cases hlt : k < n
      · obtain ⟨u, hu⟩ : ∃ u, a[k]? = some u := ⟨_, List.getElem?_eq_getElem (by rw [← HN.out]; exact hlt)⟩
        obtain ⟨u', hu'⟩ : ∃ u, b[k]? = some u := ⟨_, List.getElem?_eq_getElem (by rw [← HN'.out]; exact hlt)⟩
        obtain ⟨g, o, rfl, -, h1⟩ := HA.out k u hu
        obtain ⟨g', o', rfl, -, h2⟩ := HB.out k u' hu'
        have HU := Lib.hid (And.intro hu hu')
        clear hu hu'
        have hi0 : (0 : Int) ≤ (k : Int) := by omega
        have hi1 : (k : Int) < (n : Int) := by omega
        by_cases he : u = u'
        · subst he
          go_wp2_with fail
          go_quiet (fail)
          go_wp2_with fail
          go_roundw
          case rel => exact ⟨k + 1, _, by omega, by go_num, rfl, fun j hj => by
            rcases Nat.lt_or_ge j k with h | h
            · exact HS.out j h
            · obtain rfl : j = k := by omega
              rw [HU.out.1, HU.out.2]⟩
          case measure => simp [intOf]; omega
        · have h3 : (u == u') = false := by simpa using he
          have h4 : (u != u') = true := by simp [bne, h3]
          have HR := Lib.hid (show decide (a = b) = false by
            rw [decide_eq_false_iff_not]
            intro e
            have := HU.out
            rw [e] at this
            have h5 := this.1.symm.trans this.2
            injection h5 with h5
            exact he h5)
          clear he
          go_wp2_with fail
          go_quiet (fail)
          go_wp2_with fail
          go_ret
          exact ⟨ret_bool HR.out.symm, below_drewN (below_drewN (Below.refl _ _) _) _⟩
      · obtain rfl : k = n := by omega
        have HR := Lib.hid (show decide (a = b) = true by
          rw [decide_eq_true_iff]
          exact same_list (by rw [← HN.out, ← HN'.out]) (fun j hj => HS.out j (by rw [HN.out]; exact hj)))
        go_wp2_with fail
        go_ret
        exact ⟨ret_bool HR.out.symm, below_drewN (Below.refl _ _) _⟩
  · have HR := Lib.hid (show decide (a = b) = false by
      rw [decide_eq_false_iff_not]
      intro e
      apply hnn
      rw [HN.out, HN'.out, e])
    have hne : ((n : Int) == (n' : Int)) = false := by simp; omega
    have hne2 : ((n : Int) != (n' : Int)) = true := by simp [bne, hne]
    clear hnn
    go_enter Try.func26, Try.ntmps26
    go_wp2_with fail
    go_ret
    exact ⟨ret_bool HR.out.symm, Below.refl _ _⟩
end Go.Proofs.Ytbbmfpdlkogkfaa.Co
end
section
namespace Go.Proofs.Ytbbmfpdlkogkfaa.Co
open Go.RowKit Go.Shelf
def wayZ : Option (List Nat) → List Int
  | none => []
  | some u => natsZ u
theorem FoundR.reads {x : Con} {c : Int} {w w' : World} {e : Ending} (h : FoundR x c w e w') : Below w.heap.size w w' ∧ ∃ p n k, e = .returned (.tuple #[.slice p n k, .bool (findI x c).isSome]) ∧ RI w' (wayZ (findI x c)) (.slice p n k) := by
  obtain ⟨hb, v, he, ho⟩ := h
  refine ⟨hb, ?_⟩
  cases hf : findI x c with
  | none =>
    rw [hf] at ho he
    have ho : v = .slice none 0 0 := ho
    exact ⟨none, 0, 0, by rw [he, ho], RI.nil w'⟩
  | some u =>
    rw [hf] at ho he
    have hr := RI.wv (show WV w' (fun _ => True) u v from ho)
    have hr' := hr
    obtain ⟨p, k, hv, -⟩ := hr'
    exact ⟨p, _, k, by rw [he, hv], by rw [← hv]; exact hr⟩
theorem FindD.reads {x : Con} {c : Int} {w w' : World} {e : Ending} (h : FindD x c w e w') : Below w.heap.size w w' ∧ (wayZ (findI x c)).length ≤ 1048576 ∧ ∃ p n k, e = .returned (.tuple #[.slice p n k, .bool (findI x c).isSome]) ∧ RI w' (wayZ (findI x c)) (.slice p n k) := by
  obtain ⟨hb, h⟩ := h
  refine ⟨hb, ?_⟩
  rcases h with ⟨hf, he⟩ | ⟨u, v, hf, he, hw⟩
  · rw [hf]
    exact ⟨by simp [wayZ], none, 0, 0, he, RI.nil w'⟩
  · rw [hf]
    have hr := RI.wi hw
    have hr' := hr
    obtain ⟨p, k, hv, -⟩ := hr'
    obtain ⟨_, _, _, hl, -⟩ := hw
    exact ⟨by simp only [wayZ, natsZ, List.length_map]; omega, p, _, k, by rw [he, hv]; rfl, by rw [← hv]; exact hr⟩
theorem leaves_reads {x : Con} {w w' : World} {e : Ending} (h : Below w.heap.size w w' ∧ ∃ v, e = .returned v ∧ w'.ownsRow w.heap.size 3 1 v (leavesI x).length ((leavesI x).map (Value.int .i64))) : Below w.heap.size w w' ∧ ∃ (p : Option Addr) (l : List Int) (k : Nat), e = .returned (.slice p l.length k) ∧ RI w' l (.slice p l.length k) ∧ l = leavesI x := by
  obtain ⟨hb, v, he, ho⟩ := h
  have hr := RI.own ho
  have hr' := hr
  obtain ⟨p, k, hv, -⟩ := hr'
  exact ⟨hb, p, leavesI x, k, by rw [he, hv], by rw [← hv]; exact hr, rfl⟩
set_option maxHeartbeats 4000000 in
set_option maxRecDepth 100000 in
theorem tells_c (x : Con) (sv : Value) (k : Int) (w : World) (hK : KV w (fun b => b < w.heap.size) x.ks sv) (hw : x.a.wide) :
    Calls Try.prog 4 #[conV x.a sv, .int .i64 k] w fun e w' => e = .returned (.bool true) ∧ Below w.heap.size w w' := by
  obtain ⟨p, cap, rfl, -⟩ := hK.slice
  obtain ⟨n, hn⟩ : ∃ n, n = x.ks.length := ⟨_, rfl⟩
  rw [← hn] at hK ⊢
  have hb0 := (Below.refl w.heap.size w).alloc (Nat.le_refl _) (.cells #[.int .i64 x.a.k, .int .i64 x.a.w, .int .i64 x.a.c, .int .i64 x.a.s, .slice p n cap] 24)
  have hq0 := Blk.new w 24 #[.int .i64 x.a.k, .int .i64 x.a.w, .int .i64 x.a.c, .int .i64 x.a.s, .slice p n cap]
  have HF := Lib.hid (few_c (fun b => b < w.heap.size) x (.slice p n cap) _ (hK.next hb0))
  have HB := Lib.hid hb0
  have HQ := Lib.hid hq0
  have HK := Lib.hid hK
  obtain ⟨dn, hdn⟩ : ∃ d, d = decide (nodesC x 0 ≤ 500) := ⟨_, rfl⟩
  rw [← hdn] at HF
  have HD := Lib.hid hdn
  have HW := Lib.hid hw
  clear hn hK hb0 hq0 hdn hw
  show Calls Try.prog 4 #[.agg #[.int .i64 x.a.k, .int .i64 x.a.w, .int .i64 x.a.c, .int .i64 x.a.s, .slice p n cap], .int .i64 k] w _
  go_enter Try.func4, Try.ntmps4
  go_wp2_with fail
  refine HF.out.mono ?_
  rintro e w1 ⟨rfl, hb⟩
  have HB1 := Lib.hid (HB.out.trans (hb.mono HB.out.size))
  have q1 := HQ.out.next hb
  have HQ1 := Lib.hid q1
  obtain ⟨⟨b0, b1, b2, b3, b4⟩, -⟩ := c5 q1
  clear hb HF HB q1
  cases dn
  · go_wp2_with fail
    refine (awake_c w1).mono ?_
    rintro e w2 ⟨rfl, hb⟩
    have HB2 := HB1.out.trans (hb.mono HB1.out.size)
    clear hb
    go_wp2_with fail
    go_ret
    exact ⟨rfl, HB2⟩
  · have hs := Small.of HK.out HW.out (of_decide_eq_true HD.out.symm)
    have HFI : Hid (∀ (W : World), Below w.heap.size w W → Calls Try.prog 24 #[.agg #[.int .i64 x.a.k, .int .i64 x.a.w, .int .i64 x.a.c, .int .i64 x.a.s, .slice p n cap], .int .i64 k] W (FoundR x k W)) := fun W h =>
      Find_c x (.slice p n cap) k W (HK.out.next h).all HW.out hs.ht
    have HFD : Hid (∀ (W : World), Below w.heap.size w W → Calls Try.prog 25 #[.agg #[.int .i64 x.a.k, .int .i64 x.a.w, .int .i64 x.a.c, .int .i64 x.a.s, .slice p n cap], .int .i64 k] W (FindD x k W)) := fun W h =>
      FindR_c (fun b => b < W.heap.size) x (.slice p n cap) k W (HK.out.next h).all hs.al (fun _ h => h)
    have HL : Hid (∀ (W : World), Below w.heap.size w W → Calls Try.prog 27 #[.agg #[.int .i64 x.a.k, .int .i64 x.a.w, .int .i64 x.a.c, .int .i64 x.a.s, .slice p n cap]] W fun e w' => Below W.heap.size W w' ∧ ∃ (p : Option Addr) (l : List Int) (k : Nat), e = .returned (.slice p l.length k) ∧ RI w' l (.slice p l.length k) ∧ l = leavesI x) := fun W h =>
      (Leaves_c x (.slice p n cap) W (HK.out.next h).all HW.out hs.ht hs.n5).mono fun e w' h => leaves_reads h
    have HM : Hid (∀ (W : World), Below w.heap.size w W → Calls Try.prog 28 #[.agg #[.int .i64 x.a.k, .int .i64 x.a.w, .int .i64 x.a.c, .int .i64 x.a.s, .slice p n cap]] W fun e w' => Below W.heap.size W w' ∧ ∃ (p : Option Addr) (l : List Int) (k : Nat), e = .returned (.slice p l.length k) ∧ RI w' l (.slice p l.length k) ∧ l = leavesI x) := fun W h =>
      (LeavesR_c (fun b => b < W.heap.size) x (.slice p n cap) W (HK.out.next h).all hs.al (fun _ h => h)).mono fun e w' h => leaves_reads h
    have HLN : Hid ((leavesI x).length ≤ 1048576) := by
      have := hs.al
      show (leavesI x).length ≤ 1048576
      unfold leavesI; split
      · rw [List.length_map]; omega
      · simp
    have HI : Hid (∀ (W : World) (a b : List Int) (va vb : Value), a = b → RI W a va → RI W b vb → a.length ≤ 1048576 → Calls Try.prog 26 #[va, vb] W fun e w' => e = .returned (.bool true) ∧ Below W.heap.size W w') := fun W a b va vb hab h1 h2 hl => by
      subst hab
      have := ints_c va vb a a W h1 h2 hl hl
      rwa [decide_eq_true rfl] at this
    obtain ⟨tp, htp⟩ : ∃ z, z = topI x := ⟨_, rfl⟩
    have HP : Hid (∀ (W : World), Below w.heap.size w W → Calls Try.prog 29 #[.agg #[.int .i64 x.a.k, .int .i64 x.a.w, .int .i64 x.a.c, .int .i64 x.a.s, .slice p n cap]] W fun e w' => e = .returned (.int .i64 tp) ∧ Below W.heap.size W w') := fun W h => by
      rw [htp]; exact Top_c x (.slice p n cap) W (HK.out.next h).all HW.out hs.ht
    have HR : Hid (∀ (W : World), Below w.heap.size w W → Calls Try.prog 30 #[.agg #[.int .i64 x.a.k, .int .i64 x.a.w, .int .i64 x.a.c, .int .i64 x.a.s, .slice p n cap]] W fun e w' => e = .returned (.int .i64 tp) ∧ Below W.heap.size W w') := fun W h => by
      rw [htp]; exact TopR_c (fun b => b < W.heap.size) x (.slice p n cap) W (HK.out.next h).all hs.al (fun _ h => h)
    have HA : Hid (∀ (W : World), Calls Try.prog 18 #[] W fun e w' => e = .returned (.bool true) ∧ Below W.heap.size W w') := awake_c
    clear htp hs HK HW HD
    go_wp2_with fail
    refine (HFI.out w1 HB1.out).mono ?_
    rintro e w2 hfr
    obtain ⟨hb, pf, nf, kf, rfl, hrf⟩ := hfr.reads
    obtain ⟨is, his⟩ : ∃ b, b = (findI x k).isSome := ⟨_, rfl⟩
    rw [← his]
    have HIS := Lib.hid his
    have HRF := Lib.hid hrf
    have HB2 := Lib.hid (HB1.out.trans (hb.mono HB1.out.size))
    have HQ2 := Lib.hid (HQ1.out.next hb)
    clear hb hfr hrf his b0 b1 b2 b3 b4
    obtain ⟨⟨b0, b1, b2, b3, b4⟩, -⟩ := c5 HQ2.out
    go_wp2_with fail
    refine (HFD.out w2 HB2.out).mono ?_
    rintro e w3 hfr
    obtain ⟨hb, hln, pg, ng, kg, rfl, hrg⟩ := hfr.reads
    rw [← HIS.out]
    have HWN := Lib.hid hln
    have HG := Lib.hid hrg
    have HF := Lib.hid (HRF.out.next hb)
    have HB3 := Lib.hid (HB2.out.trans (hb.mono HB2.out.size))
    have HQ3 := Lib.hid (HQ2.out.next hb)
    have HBD := Lib.hid ((Below.refl w3.heap.size w3).drew)
    clear hb hfr hrg hln HIS HRF b0 b1 b2 b3 b4
    obtain ⟨⟨b0, b1, b2, b3, b4⟩, -⟩ := c5 HQ3.out
    go_wp2_with fail
    refine wp_region_noPanic ?_
    refine wp_region_held_drew (S := fun wx => wx.cell? ⟨w.heap.size, 0, none⟩ = some (.int .i64 x.a.k) ∧ wx.cell? ⟨w.heap.size, 1, none⟩ = some (.int .i64 x.a.w) ∧ wx.cell? ⟨w.heap.size, 2, none⟩ = some (.int .i64 x.a.c) ∧ wx.cell? ⟨w.heap.size, 3, none⟩ = some (.int .i64 x.a.s) ∧ wx.cell? ⟨w.heap.size, 4, none⟩ = some (.slice p n cap)) (by kernel_rfl) (by exact ⟨b0, b1, b2, b3, b4⟩) (fun hHeld => ?_)
    refine wpAnyH_take (i := 0) (v := ?vm0) rfl (by kernel_rfl) (by kernel_rfl) (by kernel_rfl) (fun _ _ _ h => h) (Or.inl ⟨by kernel_rfl, ?ym0⟩) (by assumption) ?rm0
    case ym0 => (intro wq hSw; (try dsimp only at hSw); go_simp; (try with_reducible rfl))
    (try simp only [Act.put, List.getElem_toArray, List.getElem_cons_zero, List.setIfInBounds_toArray, List.set_cons_zero, List.set_cons_succ])
    refine wpAnyH_take (i := 2) (v := ?vm2) rfl (by kernel_rfl) (by kernel_rfl) (by kernel_rfl) (fun _ _ _ h => h) (Or.inl ⟨by kernel_rfl, ?ym2⟩) (by assumption) ?rm2
    case ym2 => (intro wq hSw; (try dsimp only at hSw); go_simp; (try with_reducible rfl))
    (try simp only [Act.put, List.getElem_toArray, List.getElem_cons_succ, List.getElem_cons_zero, List.setIfInBounds_toArray, List.set_cons_zero, List.set_cons_succ])
    refine wpAnyH_ready (rs := [1]) (by kernel_rfl) (by simp) ?_
    refine AllReadyH.cons rfl (fun K hK => ?_) AllReadyH.nil
    go_simp
    refine (HL.out _ (HB3.out.drew)).mono ?_
    rintro ex W4 ⟨hb, pa, la, ca, rfl, hla, hea⟩; have HB4 := Lib.hid ((HB3.out.drew).trans (hb.mono (HB3.out.drew).size)); have HQ4 := Lib.hid ((HQ3.out.drew).next hb); have HA1 := Lib.hid (hla); have HE1 := Lib.hid hea; have HF1 := Lib.hid ((HF.out.next HBD.out).next hb); have HG1 := Lib.hid ((HG.out.next HBD.out).next hb); clear hla hea; clear hb; obtain ⟨⟨t0, t1, t2, t3, t4⟩, -⟩ := c5 (HQ4.out); have S4 := And.intro t0 (And.intro t1 (And.intro t2 (And.intro t3 t4))); clear t0 t1 t2 t3 t4
    (try dsimp only)
    refine hK.out _ _ (by exact S4) (fun hHeld => ?_)
    clear hK K
    (try simp only [Act.put, List.getElem_toArray, List.getElem_cons_succ, List.getElem_cons_zero, List.setIfInBounds_toArray, List.set_cons_zero, List.set_cons_succ])
    refine wpAnyH_ready (rs := [3]) (by kernel_rfl) (by simp) ?_
    refine AllReadyH.cons rfl (fun K hK => ?_) AllReadyH.nil
    go_simp
    refine (HM.out _ (HB4.out)).mono ?_
    rintro ex W5 ⟨hb, pb, lb, cb, rfl, hlb, heb⟩; have HB5 := Lib.hid ((HB4.out).trans (hb.mono (HB4.out).size)); have HQ5 := Lib.hid ((HQ4.out).next hb); have HA2 := Lib.hid (HA1.out.next hb); have HF2 := Lib.hid (HF1.out.next hb); have HG2 := Lib.hid (HG1.out.next hb); have HC2 := Lib.hid hlb; have HE2 := Lib.hid heb; clear hlb heb; clear hb; obtain ⟨⟨t0, t1, t2, t3, t4⟩, -⟩ := c5 (HQ5.out); have S5 := And.intro t0 (And.intro t1 (And.intro t2 (And.intro t3 t4))); clear t0 t1 t2 t3 t4
    (try dsimp only)
    refine hK.out _ _ (by exact S5) (fun hHeld => ?_)
    clear hK K
    (try simp only [Act.put, List.getElem_toArray, List.getElem_cons_succ, List.getElem_cons_zero, List.setIfInBounds_toArray, List.set_cons_zero, List.set_cons_succ])
    refine wpAnyH_ready (rs := [4]) (by kernel_rfl) (by simp) ?_
    refine AllReadyH.cons rfl (fun K hK => ?_) AllReadyH.nil
    go_simp
    refine (HI.out _ _ _ _ _ (HE1.out.trans HE2.out.symm) HA2.out HC2.out (by rw [HE1.out]; exact HLN.out)).mono ?_
    rintro ex W6 ⟨rfl, hb⟩; have HB6 := Lib.hid ((HB5.out).trans (hb.mono (HB5.out).size)); have HQ6 := Lib.hid ((HQ5.out).next hb); have HF3 := Lib.hid (HF2.out.next hb); have HG3 := Lib.hid (HG2.out.next hb); clear hb; obtain ⟨⟨t0, t1, t2, t3, t4⟩, -⟩ := c5 (HQ6.out); have S6 := And.intro t0 (And.intro t1 (And.intro t2 (And.intro t3 t4))); clear t0 t1 t2 t3 t4
    (try dsimp only)
    refine hK.out _ _ (by exact S6) (fun hHeld => ?_)
    clear hK K
    (try simp only [Act.put, List.getElem_toArray, List.getElem_cons_succ, List.getElem_cons_zero, List.setIfInBounds_toArray, List.set_cons_zero, List.set_cons_succ])
    refine wpAnyH_take (i := 5) (v := ?vm5) rfl (by kernel_rfl) (by kernel_rfl) (by kernel_rfl) (fun _ _ _ h => h) (Or.inl ⟨by kernel_rfl, ?ym5⟩) (by assumption) ?rm5
    case ym5 => (intro wq hSw; (try dsimp only at hSw); go_simp; (try with_reducible rfl))
    (try simp only [Act.put, List.getElem_toArray, List.getElem_cons_succ, List.getElem_cons_zero, List.setIfInBounds_toArray, List.set_cons_zero, List.set_cons_succ])
    refine wpAnyH_take (i := 6) (v := ?vm6) rfl (by kernel_rfl) (by kernel_rfl) (by kernel_rfl) (fun _ _ _ h => h) (Or.inl ⟨by kernel_rfl, ?ym6⟩) (by assumption) ?rm6
    case ym6 => (intro wq hSw; (try dsimp only at hSw); go_simp; (try with_reducible rfl))
    (try simp only [Act.put, List.getElem_toArray, List.getElem_cons_succ, List.getElem_cons_zero, List.setIfInBounds_toArray, List.set_cons_zero, List.set_cons_succ])
    refine wpAnyH_take (i := 7) (v := ?vm7) rfl (by kernel_rfl) (by kernel_rfl) (by kernel_rfl) (fun _ _ _ h => h) (Or.inl ⟨by kernel_rfl, ?ym7⟩) (by assumption) ?rm7
    case ym7 => (intro wq hSw; (try dsimp only at hSw); go_simp; (try with_reducible rfl))
    (try simp only [Act.put, List.getElem_toArray, List.getElem_cons_succ, List.getElem_cons_zero, List.setIfInBounds_toArray, List.set_cons_zero, List.set_cons_succ])
    refine wpAnyH_ready (rs := [8]) (by kernel_rfl) (by simp) ?_
    refine AllReadyH.cons rfl (fun K hK => ?_) AllReadyH.nil
    go_simp
    refine (HI.out _ _ _ _ _ rfl HF3.out HG3.out HWN.out).mono ?_
    rintro ex W7 ⟨rfl, hb⟩; have HB7 := Lib.hid ((HB6.out).trans (hb.mono (HB6.out).size)); have HQ7 := Lib.hid ((HQ6.out).next hb); clear hb; obtain ⟨⟨t0, t1, t2, t3, t4⟩, -⟩ := c5 (HQ7.out); have S7 := And.intro t0 (And.intro t1 (And.intro t2 (And.intro t3 t4))); clear t0 t1 t2 t3 t4
    (try dsimp only)
    refine hK.out _ _ (by exact S7) (fun hHeld => ?_)
    clear hK K
    (try simp only [Act.put, List.getElem_toArray, List.getElem_cons_succ, List.getElem_cons_zero, List.setIfInBounds_toArray, List.set_cons_zero, List.set_cons_succ])
    refine wpAnyH_take (i := 9) (v := ?vm9) rfl (by kernel_rfl) (by kernel_rfl) (by kernel_rfl) (fun _ _ _ h => h) (Or.inl ⟨by kernel_rfl, ?ym9⟩) (by assumption) ?rm9
    case ym9 => (intro wq hSw; (try dsimp only at hSw); go_simp; (try with_reducible rfl))
    (try simp only [Act.put, List.getElem_toArray, List.getElem_cons_succ, List.getElem_cons_zero, List.setIfInBounds_toArray, List.set_cons_zero, List.set_cons_succ])
    refine wpAnyH_take (i := 10) (v := ?vm10) rfl (by kernel_rfl) (by kernel_rfl) (by kernel_rfl) (fun _ _ _ h => h) (Or.inl ⟨by kernel_rfl, ?ym10⟩) (by assumption) ?rm10
    case ym10 => (intro wq hSw; (try dsimp only at hSw); go_simp; (try with_reducible rfl))
    (try simp only [Act.put, List.getElem_toArray, List.getElem_cons_succ, List.getElem_cons_zero, List.setIfInBounds_toArray, List.set_cons_zero, List.set_cons_succ])
    refine wpAnyH_take (i := 11) (v := ?vm11) rfl (by kernel_rfl) (by kernel_rfl) (by kernel_rfl) (fun _ _ _ h => h) (Or.inl ⟨by kernel_rfl, ?ym11⟩) (by assumption) ?rm11
    case ym11 => (intro wq hSw; (try dsimp only at hSw); go_simp; (try with_reducible rfl))
    (try simp only [Act.put, List.getElem_toArray, List.getElem_cons_succ, List.getElem_cons_zero, List.setIfInBounds_toArray, List.set_cons_zero, List.set_cons_succ])
    refine wpAnyH_take (i := 12) (v := ?vm12) rfl (by kernel_rfl) (by kernel_rfl) (by kernel_rfl) (fun _ _ _ h => h) (Or.inl ⟨by kernel_rfl, ?ym12⟩) (by assumption) ?rm12
    case ym12 => (intro wq hSw; (try dsimp only at hSw); go_simp; (try with_reducible rfl))
    (try simp only [Act.put, List.getElem_toArray, List.getElem_cons_succ, List.getElem_cons_zero, List.setIfInBounds_toArray, List.set_cons_zero, List.set_cons_succ])
    refine wpAnyH_take (i := 13) (v := ?vm13) rfl (by kernel_rfl) (by kernel_rfl) (by kernel_rfl) (fun _ _ _ h => h) (Or.inl ⟨by kernel_rfl, ?ym13⟩) (by assumption) ?rm13
    case ym13 => (intro wq hSw; (try dsimp only at hSw); go_simp; (try with_reducible rfl))
    (try simp only [Act.put, List.getElem_toArray, List.getElem_cons_succ, List.getElem_cons_zero, List.setIfInBounds_toArray, List.set_cons_zero, List.set_cons_succ])
    refine wpAnyH_take (i := 14) (v := ?vm14) rfl (by kernel_rfl) (by kernel_rfl) (by kernel_rfl) (fun _ _ _ h => h) (Or.inl ⟨by kernel_rfl, ?ym14⟩) (by assumption) ?rm14
    case ym14 => (intro wq hSw; (try dsimp only at hSw); go_simp; (try with_reducible rfl))
    (try simp only [Act.put, List.getElem_toArray, List.getElem_cons_succ, List.getElem_cons_zero, List.setIfInBounds_toArray, List.set_cons_zero, List.set_cons_succ])
    refine wpAnyH_take (i := 15) (v := ?vm15) rfl (by kernel_rfl) (by kernel_rfl) (by kernel_rfl) (fun _ _ _ h => h) (Or.inl ⟨by kernel_rfl, ?ym15⟩) (by assumption) ?rm15
    case ym15 => (intro wq hSw; (try dsimp only at hSw); go_simp; (try with_reducible rfl))
    (try simp only [Act.put, List.getElem_toArray, List.getElem_cons_succ, List.getElem_cons_zero, List.setIfInBounds_toArray, List.set_cons_zero, List.set_cons_succ])
    refine wpAnyH_take (i := 16) (v := ?vm16) rfl (by kernel_rfl) (by kernel_rfl) (by kernel_rfl) (fun _ _ _ h => h) (Or.inl ⟨by kernel_rfl, ?ym16⟩) (by assumption) ?rm16
    case ym16 => (intro wq hSw; (try dsimp only at hSw); go_simp; (try with_reducible rfl))
    (try simp only [Act.put, List.getElem_toArray, List.getElem_cons_succ, List.getElem_cons_zero, List.setIfInBounds_toArray, List.set_cons_zero, List.set_cons_succ])
    refine wpAnyH_take (i := 18) (v := ?vm18) rfl (by kernel_rfl) (by kernel_rfl) (by kernel_rfl) (fun _ _ _ h => h) (Or.inl ⟨by kernel_rfl, ?ym18⟩) (by assumption) ?rm18
    case ym18 => (intro wq hSw; (try dsimp only at hSw); go_simp; (try with_reducible rfl))
    (try simp only [Act.put, List.getElem_toArray, List.getElem_cons_succ, List.getElem_cons_zero, List.setIfInBounds_toArray, List.set_cons_zero, List.set_cons_succ])
    refine wpAnyH_ready (rs := [17]) (by kernel_rfl) (by simp) ?_
    refine AllReadyH.cons rfl (fun K hK => ?_) AllReadyH.nil
    go_simp
    refine (HP.out _ (HB7.out)).mono ?_
    rintro ex W8 ⟨rfl, hb⟩; have HB8 := Lib.hid ((HB7.out).trans (hb.mono (HB7.out).size)); have HQ8 := Lib.hid ((HQ7.out).next hb); clear hb; obtain ⟨⟨t0, t1, t2, t3, t4⟩, -⟩ := c5 (HQ8.out); have S8 := And.intro t0 (And.intro t1 (And.intro t2 (And.intro t3 t4))); clear t0 t1 t2 t3 t4
    (try dsimp only)
    refine hK.out _ _ (by exact S8) (fun hHeld => ?_)
    clear hK K
    (try simp only [Act.put, List.getElem_toArray, List.getElem_cons_succ, List.getElem_cons_zero, List.setIfInBounds_toArray, List.set_cons_zero, List.set_cons_succ])
    refine wpAnyH_ready (rs := [19]) (by kernel_rfl) (by simp) ?_
    refine AllReadyH.cons rfl (fun K hK => ?_) AllReadyH.nil
    go_simp
    refine (HR.out _ (HB8.out)).mono ?_
    rintro ex W9 ⟨rfl, hb⟩; have HB9 := Lib.hid ((HB8.out).trans (hb.mono (HB8.out).size)); have HQ9 := Lib.hid ((HQ8.out).next hb); clear hb; obtain ⟨⟨t0, t1, t2, t3, t4⟩, -⟩ := c5 (HQ9.out); have S9 := And.intro t0 (And.intro t1 (And.intro t2 (And.intro t3 t4))); clear t0 t1 t2 t3 t4
    (try dsimp only)
    refine hK.out _ _ (by exact S9) (fun hHeld => ?_)
    clear hK K
    (try simp only [Act.put, List.getElem_toArray, List.getElem_cons_succ, List.getElem_cons_zero, List.setIfInBounds_toArray, List.set_cons_zero, List.set_cons_succ])
    refine wpAnyH_take (i := 20) (v := ?vm20) rfl (by kernel_rfl) (by kernel_rfl) (by kernel_rfl) (fun _ _ _ h => h) (Or.inl ⟨by kernel_rfl, ?ym20⟩) (by assumption) ?rm20
    case ym20 => (intro wq hSw; (try dsimp only at hSw); go_simp; (try with_reducible rfl))
    (try simp only [Act.put, List.getElem_toArray, List.getElem_cons_succ, List.getElem_cons_zero, List.setIfInBounds_toArray, List.set_cons_zero, List.set_cons_succ])
    refine wpAnyH_take (i := 21) (v := ?vm21) rfl (by kernel_rfl) (by kernel_rfl) (by kernel_rfl) (fun _ _ _ h => h) (Or.inl ⟨by kernel_rfl, ?ym21⟩) (by assumption) ?rm21
    case ym21 => (intro wq hSw; (try dsimp only at hSw); go_simp; (try with_reducible rfl))
    (try simp only [Act.put, List.getElem_toArray, List.getElem_cons_succ, List.getElem_cons_zero, List.setIfInBounds_toArray, List.set_cons_zero, List.set_cons_succ])
    refine wpAnyH_take (i := 22) (v := ?vm22) rfl (by kernel_rfl) (by kernel_rfl) (by kernel_rfl) (fun _ _ _ h => h) (Or.inl ⟨by kernel_rfl, ?ym22⟩) (by assumption) ?rm22
    case ym22 => (intro wq hSw; (try dsimp only at hSw); go_simp; (try with_reducible rfl))
    (try simp only [Act.put, List.getElem_toArray, List.getElem_cons_succ, List.getElem_cons_zero, List.setIfInBounds_toArray, List.set_cons_zero, List.set_cons_succ])
    refine wpAnyH_ready (rs := [23]) (by kernel_rfl) (by simp) ?_
    refine AllReadyH.cons rfl (fun K hK => ?_) AllReadyH.nil
    go_simp
    refine (HA.out _).mono ?_
    rintro ex W10 ⟨rfl, hb⟩; have HB10 := Lib.hid ((HB9.out).trans (hb.mono (HB9.out).size)); have HQ10 := Lib.hid ((HQ9.out).next hb); clear hb; obtain ⟨⟨t0, t1, t2, t3, t4⟩, -⟩ := c5 (HQ10.out); have S10 := And.intro t0 (And.intro t1 (And.intro t2 (And.intro t3 t4))); clear t0 t1 t2 t3 t4
    (try dsimp only)
    refine hK.out _ _ (by exact S10) (fun hHeld => ?_)
    clear hK K
    (try simp only [Act.put, List.getElem_toArray, List.getElem_cons_succ, List.getElem_cons_zero, List.setIfInBounds_toArray, List.set_cons_zero, List.set_cons_succ])
    refine wpAnyH_take (i := 24) (v := ?vm24) rfl (by kernel_rfl) (by kernel_rfl) (by kernel_rfl) (fun _ _ _ h => h) (Or.inl ⟨by kernel_rfl, ?ym24⟩) (by assumption) ?rm24
    case ym24 => (intro wq hSw; (try dsimp only at hSw); go_simp; (try with_reducible rfl))
    (try simp only [Act.put, List.getElem_toArray, List.getElem_cons_succ, List.getElem_cons_zero, List.setIfInBounds_toArray, List.set_cons_zero, List.set_cons_succ])
    refine wpAnyH_take (i := 25) (v := ?vm25) rfl (by kernel_rfl) (by kernel_rfl) (by kernel_rfl) (fun _ _ _ h => h) (Or.inl ⟨by kernel_rfl, ?ym25⟩) (by assumption) ?rm25
    case ym25 => (intro wq hSw; (try dsimp only at hSw); go_simp; (try with_reducible rfl))
    (try simp only [Act.put, List.getElem_toArray, List.getElem_cons_succ, List.getElem_cons_zero, List.setIfInBounds_toArray, List.set_cons_zero, List.set_cons_succ])
    refine wpAnyH_done (by kernel_rfl) ?_ _
    refine NoPanic.normal ?_
    go_wp2_with fail
    go_ret
    exact ⟨rfl, HB10.out⟩
end Go.Proofs.Ytbbmfpdlkogkfaa.Co
end
section
namespace Go.Proofs.Ytbbmfpdlkogkfaa.Co
open Go.RowKit Go.Shelf
theorem insert_fine9 {x : Con} {near c se : Int} (hf : fine x) (hc : I64 c) (hse : I64 se) : fine (insertI x near c se).1 := by
  unfold insertI
  by_cases h1 : treeB x = false
  · rw [if_pos h1]; exact zeroT_fine
  rw [if_neg h1]
  have htr : treeB x = true := by cases h : treeB x; exact absurd h h1; rfl
  by_cases h2 : hasB x c = true
  · rw [if_pos h2]; exact zeroT_fine
  rw [if_neg h2]
  by_cases h3 : c < 1 ∨ se < 0
  · rw [if_pos h3]; exact zeroT_fine
  rw [if_neg h3]
  by_cases h4 : near ≠ 0 ∧ hasB x near = false
  · rw [if_pos h4]; exact zeroT_fine
  rw [if_neg h4]
  cases hg : get x (insSpot x near).1 with
  | none => exact zeroT_fine
  | some q =>
    simp only
    by_cases h5 : q.ks.length = 64 ∨ (all x).length = 128
    · rw [if_pos h5]; exact zeroT_fine
    rw [if_neg h5]
    have hq := fine_get hf hg
    have hl : q.ks.length ≤ 64 := by
      have hsh := shape_get (tree_parts htr).1 hg
      by_cases hk : q.a.k = 0
      · rw [shape_leaf hsh hk]; simp
      · obtain ⟨qa, qk⟩ := q
        obtain ⟨_, _, _, _, _, _, _, p8, _⟩ := split_shape hsh hk
        exact p8
    obtain ⟨qa, qk⟩ := q
    obtain ⟨q1, q2, q3⟩ := fine_kids hq
    simp only [Tr.a_mk, Tr.ks_mk] at hl ⊢
    refine fine_put hf (fine_mk q1 ?_ fun y hy => ?_)
    · simp only [List.length_append, List.length_take, List.length_cons, List.length_drop]; omega
    · rcases List.mem_append.1 hy with h | h
      · exact q3 y (List.mem_of_mem_take h)
      · rcases List.mem_cons.1 h with rfl | h
        · exact fine_mk ⟨(show I64 0 from ⟨by decide, by decide⟩), (show I64 65536 from ⟨by decide, by decide⟩), hc, hse⟩ (by simp) (by simp)
        · exact q3 y (List.mem_of_mem_drop h)
section
variable {x : Con} {p : Option Addr} {n c : Nat} {W : World} {Z : Nat → Prop}
theorem chk_k (hK : KV W Z x.ks (.slice p n c)) (hs : Small x) (ht : treeB x = true) : Calls Try.prog 19 #[.agg #[.int .i64 x.a.k, .int .i64 x.a.w, .int .i64 x.a.c, .int .i64 x.a.s, .slice p n c]] W fun e w' => e = .returned (.int .i64 0) ∧ Below W.heap.size W w' := by
  have := check_c _ x (.slice p n c) W hK.all hs.wide hs.ht (fun _ h => h)
  rwa [checkI_eq, if_neg (by rw [ht]; simp)] at this
theorem chkI_k (hK : KV W Z x.ks (.slice p n c)) (hs : Small x) : Calls Try.prog 19 #[.agg #[.int .i64 x.a.k, .int .i64 x.a.w, .int .i64 x.a.c, .int .i64 x.a.s, .slice p n c]] W fun e w' => e = .returned (.int .i64 (checkI x)) ∧ Below W.heap.size W w' :=
  check_c _ x (.slice p n c) W hK.all hs.wide hs.ht (fun _ h => h)
theorem lvs_k (hK : KV W Z x.ks (.slice p n c)) (hs : Small x) : Calls Try.prog 27 #[.agg #[.int .i64 x.a.k, .int .i64 x.a.w, .int .i64 x.a.c, .int .i64 x.a.s, .slice p n c]] W fun e w' => Below W.heap.size W w' ∧ ∃ (p : Option Addr) (l : List Int) (k : Nat), e = .returned (.slice p l.length k) ∧ RI w' l (.slice p l.length k) ∧ l = leavesI x :=
  (Leaves_c x (.slice p n c) W hK.all hs.wide hs.ht hs.n5).mono fun _ _ h => leaves_reads h
theorem ints_k {a b : List Int} {va vb : Value} (hab : a = b) (ha : RI W a va) (hb : RI W b vb) (hl : a.length ≤ 1048576) : Calls Try.prog 26 #[va, vb] W fun e w' => e = .returned (.bool true) ∧ Below W.heap.size W w' := by
  subst hab
  have := ints_c va vb a a W ha hb hl hl
  rwa [decide_eq_true rfl] at this
theorem small_len (hs : Small x) : (leavesI x).length ≤ 1048576 := by
  have := hs.al
  unfold leavesI
  split
  · rw [List.length_map]; omega
  · simp
theorem rem_k (a : Int) (hK : KV W Z x.ks (.slice p n c)) (hs : Small x) (hB : ∀ b, Z b → b < W.heap.size) : Calls Try.prog 33 #[.agg #[.int .i64 x.a.k, .int .i64 x.a.w, .int .i64 x.a.c, .int .i64 x.a.s, .slice p n c], .int .i64 a] W (AnsR 0 (removeD x a) W) :=
  (remove_c x (.slice p n c) a W (hK.weak hB) hs.wide hs.ht hs.wd).mono fun _ _ h => by
    have h1 := h.1
    rw [show removeI x a = removeD x a from removeD_eq x a] at h1
    refine h1.ans h.2 ?_
    by_cases h0 : (removeD x a).2 = 0
    · exact remove_fine hs.f h0
    · unfold removeD at h0 ⊢
      split
      · exact zeroT_fine
      · split
        · exact zeroT_fine
        · rename_i h2 h3
          rw [if_neg h2, if_neg h3] at h0
          exact absurd rfl h0
theorem ins_k (a b s : Int) (hb : I64 b) (hs9 : I64 s) (hK : KV W Z x.ks (.slice p n c)) (hs : Small x) (hB : ∀ b, Z b → b < W.heap.size) : Calls Try.prog 31 #[.agg #[.int .i64 x.a.k, .int .i64 x.a.w, .int .i64 x.a.c, .int .i64 x.a.s, .slice p n c], .int .i64 a, .int .i64 b, .int .i64 s] W (AnsR 0 (insertI x a b s) W) :=
  (Insert_c x (.slice p n c) a b s W (hK.weak hB) hs.wide hs.ht hs.wd hs.n5).mono fun _ _ h => h.1.ans h.2 (insert_fine9 hs.f hb hs9)
theorem same_self {y z : Con} {q : Option Addr} {n' d : Nat} {Z' : Nat → Prop} (h : y = z) (h1 : KV W Z y.ks (.slice p n c)) (h2 : KV W Z' z.ks (.slice q n' d)) : Calls Try.prog 21 #[.agg #[.int .i64 y.a.k, .int .i64 y.a.w, .int .i64 y.a.c, .int .i64 y.a.s, .slice p n c], .agg #[.int .i64 z.a.k, .int .i64 z.a.w, .int .i64 z.a.c, .int .i64 z.a.s, .slice q n' d]] W fun e w' => e = .returned (.bool true) ∧ Below W.heap.size W w' :=
  same_k (by subst h; exact sameB_refl _) h1 h2
end
theorem small_of {x : Con} (hc : cnt x ≤ 900) (hf : fine x) : Small x := ⟨hc, hf⟩
theorem few_cnt {x : Con} (h : nodesC x 0 ≤ 500) : cnt x ≤ 500 := by have := pre_len x [] 0 h; unfold cnt; omega
end Go.Proofs.Ytbbmfpdlkogkfaa.Co
end
section
namespace Go.Proofs.Ytbbmfpdlkogkfaa.Co
open Go.RowKit Go.Shelf
/-- From one container's cells to another's, along a way. -/
inductive Path (w : World) : Nat → Nat → List Nat → Nat → Nat → Prop where
  | nil (b o : Nat) : Path w b o [] b o
  | cons {b o g q n c i : Nat} {u : List Nat} {b' o' : Nat} (h4 : w.cell? ⟨b, o + 4, none⟩ = some (.slice (some ⟨g, q, none⟩) n c)) (hi : i < n) (h : Path w g (q + i * 5) u b' o') : Path w b o (i :: u) b' o'
theorem Path.same {w w' : World} {b o : Nat} {u : List Nat} {b' o' : Nat} (h : Path w b o u b' o') (hc : ∀ b o u, w.cell? ⟨b, o, none⟩ = some u → w'.cell? ⟨b, o, none⟩ = some u) : Path w' b o u b' o' := by
  induction h with
  | nil b o => exact .nil b o
  | cons h4 hi _ ih => exact .cons (hc _ _ _ h4) hi ih
theorem Path.drew {w : World} {b o : Nat} {u : List Nat} {b' o' : Nat} (h : Path w b o u b' o') : Path w.drew b o u b' o' := h.same fun _ _ _ h => h
theorem Path.step {w : World} {b o i : Nat} {u : List Nat} {b' o' : Nat} (h : Path w b o (i :: u) b' o') : ∃ g q n c, w.cell? ⟨b, o + 4, none⟩ = some (.slice (some ⟨g, q, none⟩) n c) ∧ i < n ∧ Path w g (q + i * 5) u b' o' := by
  cases h with
  | cons h4 hi h => exact ⟨_, _, _, _, h4, hi, h⟩
theorem Path.end_ {w : World} {b o : Nat} {b' o' : Nat} (h : Path w b o [] b' o') : b = b' ∧ o = o' := by
  cases h; exact ⟨rfl, rfl⟩
/-- A container's five cells, and what they read as. -/
def ConAt (w : World) (Z : Nat → Prop) (b o : Nat) (x : Con) : Prop :=
  b < w.heap.size ∧ x.a.wide ∧ ∃ sv, KV w Z x.ks sv ∧ w.cell? ⟨b, o, none⟩ = some (.int .i64 x.a.k) ∧ w.cell? ⟨b, o + 1, none⟩ = some (.int .i64 x.a.w) ∧ w.cell? ⟨b, o + 2, none⟩ = some (.int .i64 x.a.c) ∧ w.cell? ⟨b, o + 3, none⟩ = some (.int .i64 x.a.s) ∧ w.cell? ⟨b, o + 4, none⟩ = some sv
theorem ConAt.next {w w' : World} {Z : Nat → Prop} {b o : Nat} {x : Con} (h : ConAt w Z b o x) (hb : Below w.heap.size w w') : ConAt w' Z b o x := by
  obtain ⟨h1, h2, sv, h3, h4⟩ := h
  exact ⟨Nat.lt_of_lt_of_le h1 hb.size, h2, sv, h3.next hb, cells5 hb h1 h4⟩
theorem ConAt.drew {w : World} {Z : Nat → Prop} {b o : Nat} {x : Con} (h : ConAt w Z b o x) : ConAt w.drew Z b o x := h.next (Below.refl _ _).drew
theorem ConAt.path {w : World} {Z : Nat → Prop} : ∀ {u : List Nat} {b o : Nat} {x s : Con}, ConAt w Z b o x → get x u = some s → ∃ b' o', Path w b o u b' o' ∧ ConAt w Z b' o' s
  | [], b, o, x, s, h, hs => by
    obtain ⟨a, ks⟩ := x
    simp only [get] at hs
    have hs := Option.some.inj hs
    subst hs
    exact ⟨b, o, .nil b o, h⟩
  | i :: u, b, o, x, s, h, hs => by
    obtain ⟨_, _, sv, h3, _, _, _, _, h8⟩ := h
    obtain ⟨a, ks⟩ := x
    obtain ⟨y, hy, hys⟩ := get_cons hs
    obtain ⟨p, c, rfl, hl⟩ := h3.slice
    obtain ⟨-, g, q, sv', hp, -, hlt, hw, hk, c5⟩ := h3.kid hy
    subst hp
    have hA : ConAt w Z g (q + i * 5) y := ⟨hlt, hw, sv', hk, c5⟩
    obtain ⟨b', o', h9, h10⟩ := ConAt.path hA hys
    exact ⟨b', o', .cons h8 (List.getElem?_eq_some_iff.1 hy).1 h9, h10⟩
theorem held_path {w : World} {b o : Nat} {t s : ATr} {u : List Nat} (h : Held w b o t) (hs : get t u = some s) : Path w b o u (loc b o t u).1 (loc b o t u).2 := by
  have key : ∀ (m k : Nat), k + m = u.length → Path w (loc b o t (u.take k)).1 (loc b o t (u.take k)).2 (u.drop k) (loc b o t u).1 (loc b o t u).2 := by
    intro m
    induction m with
    | zero =>
      intro k hk
      have hk : k = u.length := by omega
      subst hk
      rw [List.take_length, List.drop_length]
      exact .nil _ _
    | succ m ih =>
      intro k hk
      have hlt : k < u.length := by omega
      have hi : u[k]? = some u[k] := List.getElem?_eq_getElem hlt
      obtain ⟨p, y, h1, h2, h3⟩ := loc_step (b := b) (o := o) hs hi
      have h4 := (h.get h1).cells 4 _ rfl
      rw [slA_some h2] at h4
      rw [List.drop_eq_getElem_cons hlt]
      have h5 := ih (k + 1) (by omega)
      rw [h3] at h5
      have h6 : Path w p.a.g (0 + u[k] * 5) (u.drop (k + 1)) (loc b o t u).1 (loc b o t u).2 := by rw [Nat.zero_add]; exact h5
      exact .cons h4 (List.getElem?_eq_some_iff.1 h2).1 h6
  exact key u.length 0 (by omega)
set_option maxHeartbeats 1000000 in
theorem cut_p (Y : Nat → Prop) (b o b' o' : Nat) (way : List Nat) (i : Nat) (v : Value) (w : World) (hP : Path w b o way b' o') (hv : WV w Y (way ++ [i]) v) :
    Calls Try.prog 86 #[.pointer (some ⟨b, o, none⟩), v] w fun e w' => e = .returned (.tuple #[.pointer (some ⟨b', o', none⟩), .int .i64 (i : Int)]) ∧ Drew w w' := by
  obtain ⟨q, c, rfl⟩ := hv.slice
  obtain ⟨q', c', e, hm, hnc, -, -, hcell⟩ := hv
  obtain ⟨rfl, -, rfl⟩ := Value.slice.inj e
  obtain ⟨bb, rfl, hc0⟩ := hcell way.length i (by simp)
  have e1 : (way ++ [i]).length = way.length + 1 := by simp
  have hcw : ∀ (k j : Nat), way[k]? = some j → w.cell? ⟨bb, k, none⟩ = some (.int .i64 (j : Int)) := fun k j hk => by
    obtain ⟨b9, e9, h9⟩ := hcell k j (by rw [List.getElem?_append_left (List.getElem?_eq_some_iff.1 hk).1]; exact hk)
    have e9 := (Addr.mk.inj (Option.some.inj e9)).1
    subst e9
    exact h9
  obtain ⟨n, hn⟩ : ∃ n, n = way.length := ⟨_, rfl⟩
  rw [e1, ← hn] at hm hnc ⊢
  rw [← hn] at hc0
  have HC := Lib.hid hcw
  have HN := Lib.hid hn
  have HP := Lib.hid hP
  have HM := Lib.hid hm
  clear hP hcell e e1 hn hcw
  have h1 : (0 : Int) ≤ (n : Int) := by omega
  have h2 : n ≤ c := by omega
  have h3 : (n : Int) < (n : Int) + 1 := by omega
  have h4 : n < n + 1 := by omega
  have hw1 : IntKind.i64.wrap ((n : Int) + 1 - 1) = (n : Int) := by rw [IntWalk.i64_in _ (by omega)]; omega
  go_enter Try.func86, Try.ntmps86
  go_wp2_with fail
  go_loop [0, 16] (fun p z => ∃ k : Nat, k ≤ n ∧ z = .int .i64 k ∧ ∃ bk ok : Nat, p = .pointer (some ⟨bk, ok, none⟩) ∧ Asd (Path w bk ok (way.drop k) b' o')) (fun _ z => n - (intOf z).toNat)
  case atStart => exact ⟨0, Nat.zero_le _, rfl, b, o, rfl, HP.out⟩
  case round =>
    obtain ⟨k, hk, rfl, bk, ok, rfl, hp⟩ := hrel
    by_cases hlt : k < n
    · have hl : k < way.length := by rw [← HN.out]; exact hlt
      obtain ⟨j, hj⟩ : ∃ j, way[k]? = some j := ⟨_, List.getElem?_eq_getElem hl⟩
      have hp : Path w bk ok (way.drop k) b' o' := hp
      have hd : way.drop k = j :: way.drop (k + 1) := by rw [List.drop_eq_getElem_cons hl]; have := List.getElem?_eq_getElem hl; rw [this] at hj; rw [Option.some.inj hj]
      rw [hd] at hp
      obtain ⟨g, qo, m, cc, h5, h6, h8⟩ := hp.step
      have hci := HC.out k j hj
      have hI : ((j : Nat) : Int) < (m : Int) := by omega
      have hI0 : (0 : Int) ≤ (j : Int) := by omega
      have H8 := Lib.hid h8
      clear hp hd h8 hj hl
      go_wp2_with fail
      go_round
      case rel => exact ⟨k + 1, by omega, by go_num, g, qo + j * 5, rfl, H8.out⟩
      case measure => simp [intOf]; omega
    · have hkn : k = n := by omega
      have hp : Path w bk ok (way.drop k) b' o' := hp
      rw [hkn, HN.out, List.drop_length] at hp
      obtain ⟨rfl, rfl⟩ := hp.end_
      clear hp
      subst hkn
      go_upto_region 7 with fail
      refine wp_region_noPanic ?_
      refine wp_region_held_drew (S := fun wx => wx.cell? ⟨bb, k, none⟩ = some (.int .i64 (i : Int))) (by kernel_rfl) (by exact hc0) (fun hHeld => ?_)
      refine wpAnyH_take (i := 0) (v := ?v0) rfl (by kernel_rfl) (by kernel_rfl) (by kernel_rfl) (fun _ _ _ h => h) (Or.inl ⟨by kernel_rfl, ?y0⟩) (by assumption) ?r0
      case y0 => (intro wq hSw; (try dsimp only at hSw); go_simp; (try with_reducible rfl))
      (try simp only [Act.put, List.getElem_toArray, List.getElem_cons_zero, List.setIfInBounds_toArray, List.set_cons_zero, List.set_cons_succ])
      refine wpAnyH_take (i := 1) (v := ?v1) rfl (by kernel_rfl) (by kernel_rfl) (by kernel_rfl) (fun _ _ _ h => h) (Or.inl ⟨by kernel_rfl, ?y1⟩) (by assumption) ?r1
      case y1 => (intro wq hSw; (try dsimp only at hSw); go_simp; (try with_reducible rfl))
      (try simp only [Act.put, List.getElem_toArray, List.getElem_cons_succ, List.getElem_cons_zero, List.setIfInBounds_toArray, List.set_cons_zero, List.set_cons_succ])
      refine wpAnyH_take (i := 2) (v := ?v2) rfl (by kernel_rfl) (by kernel_rfl) (by kernel_rfl) (fun _ _ _ h => h) (Or.inl ⟨by kernel_rfl, ?y2⟩) (by assumption) ?r2
      case y2 => (intro wq hSw; (try dsimp only at hSw); go_simp; (try with_reducible rfl))
      (try simp only [Act.put, List.getElem_toArray, List.getElem_cons_succ, List.getElem_cons_zero, List.setIfInBounds_toArray, List.set_cons_zero, List.set_cons_succ])
      refine wpAnyH_take (i := 3) (v := ?v3) rfl (by kernel_rfl) (by kernel_rfl) (by kernel_rfl) (fun _ _ _ h => h) (Or.inl ⟨by kernel_rfl, ?y3⟩) (by assumption) ?r3
      case y3 => (intro wq hSw; (try dsimp only at hSw); go_simp; (try with_reducible rfl))
      (try simp only [Act.put, List.getElem_toArray, List.getElem_cons_succ, List.getElem_cons_zero, List.setIfInBounds_toArray, List.set_cons_zero, List.set_cons_succ])
      refine wpAnyH_take (i := 4) (v := ?v4) rfl (by kernel_rfl) (by kernel_rfl) (by kernel_rfl) (fun _ _ _ h => h) (Or.inl ⟨by kernel_rfl, ?y4⟩) (by assumption) ?r4
      case y4 => (intro wq hSw; (try dsimp only at hSw); go_simp; (try with_reducible rfl))
      (try simp only [Act.put, List.getElem_toArray, List.getElem_cons_succ, List.getElem_cons_zero, List.setIfInBounds_toArray, List.set_cons_zero, List.set_cons_succ])
      refine wpAnyH_take (i := 5) (v := ?v5) rfl (by kernel_rfl) (by kernel_rfl) (by kernel_rfl) (fun _ _ _ h => h) (Or.inl ⟨by kernel_rfl, ?y5⟩) (by assumption) ?r5
      case y5 => (intro wq hSw; (try dsimp only at hSw); go_simp; (try with_reducible rfl))
      (try simp only [Act.put, List.getElem_toArray, List.getElem_cons_succ, List.getElem_cons_zero, List.setIfInBounds_toArray, List.set_cons_zero, List.set_cons_succ])
      refine wpAnyH_take (i := 6) (v := ?v6) rfl (by kernel_rfl) (by kernel_rfl) (by kernel_rfl) (fun _ _ _ h => h) (Or.inl ⟨by kernel_rfl, ?y6⟩) (by assumption) ?r6
      case y6 => (intro wq hSw; (try dsimp only at hSw); go_simp; (try with_reducible rfl))
      (try simp only [Act.put, List.getElem_toArray, List.getElem_cons_succ, List.getElem_cons_zero, List.setIfInBounds_toArray, List.set_cons_zero, List.set_cons_succ])
      refine wpAnyH_done (by kernel_rfl) ?_ _
      refine NoPanic.normal ?_
      go_wp2_with fail
      go_ret2
      exact ⟨rfl, 1, rfl⟩
def aheadB (d : Int) : Bool := decide (d = 1 ∨ d = 3)
def alongB (k d : Int) : Bool := if d = 1 ∨ d = 2 then decide (k = 1 ∨ k = 3) else decide (k = 2 ∨ k = 4)
theorem ahead_c (d : Int) (w : World) : Calls Try.prog 106 #[.int .i64 d] w fun e w' => e = .returned (.bool (aheadB d)) ∧ w = w' := by
  obtain ⟨r, hr⟩ : ∃ r, r = aheadB d := ⟨_, rfl⟩
  rw [← hr]
  have HR := Lib.hid hr
  clear hr
  go_enter Try.func106, Try.ntmps106
  by_cases h1 : d = 1
  · subst h1
    go_wp2
    go_ret
    exact ⟨ret_bool (by rw [HR.out]; rfl), rfl⟩
  · by_cases h2 : d = 3
    · subst h2
      go_wp2
      go_ret
      exact ⟨ret_bool (by rw [HR.out]; rfl), rfl⟩
    · go_wp2
      go_ret
      exact ⟨ret_bool (by rw [HR.out]; unfold aheadB; simp [h1, h2]), rfl⟩
theorem along_c (k d : Int) (w : World) : Calls Try.prog 107 #[.int .i64 k, .int .i64 d] w fun e w' => e = .returned (.bool (alongB k d)) ∧ w = w' := by
  obtain ⟨r, hr⟩ : ∃ r, r = alongB k d := ⟨_, rfl⟩
  rw [← hr]
  unfold alongB at hr
  by_cases h1 : d = 1 ∨ d = 2
  · rw [if_pos h1] at hr
    have h2 : (d == 1 || d == 2) = true := by simpa using h1
    have HR := Lib.hid hr
    clear hr h1
    go_enter Try.func107, Try.ntmps107
    go_wp2
    all_goals
      go_ret
      refine ⟨ret_bool ?_, rfl⟩
      rw [HR.out, Bool.eq_iff_iff]
      first | (simp; done) | (simp_all; done) | (simp_all; omega)
  · rw [if_neg h1] at hr
    have h2 : (d == 1 || d == 2) = false := by simpa using h1
    have HR := Lib.hid hr
    clear hr h1
    go_enter Try.func107, Try.ntmps107
    go_wp2
    all_goals
      go_ret
      refine ⟨ret_bool ?_, rfl⟩
      rw [HR.out, Bool.eq_iff_iff]
      first | (simp; done) | (simp_all; done) | (simp_all; omega)
/-- The place of the one beside, that way. -/
def besI (k : Int) (n i : Nat) (d : Int) : Option Nat :=
  if alongB k d = true then (if aheadB d = true then (if i = 0 then none else some (i - 1)) else (if i + 1 < n then some (i + 1) else none)) else none
def besV : Option Nat → Value
  | none => .tuple #[.int .i64 0, .bool false]
  | some j => .tuple #[.int .i64 (j : Int), .bool true]
theorem besI_lt {k : Int} {n i : Nat} {d : Int} {j : Nat} (h : besI k n i d = some j) (hi : i < n) : j < n ∧ (alongB k d = true ∧ ((aheadB d = true ∧ j + 1 = i) ∨ (aheadB d = false ∧ j = i + 1))) := by
  unfold besI at h
  by_cases h1 : alongB k d = true
  · rw [if_pos h1] at h
    by_cases h2 : aheadB d = true
    · rw [if_pos h2] at h
      by_cases h3 : i = 0
      · rw [if_pos h3] at h; cases h
      · rw [if_neg h3] at h
        have h := Option.some.inj h
        exact ⟨by omega, h1, .inl ⟨h2, by omega⟩⟩
    · rw [if_neg h2] at h
      by_cases h3 : i + 1 < n
      · rw [if_pos h3] at h
        have h := Option.some.inj h
        exact ⟨by omega, h1, .inr ⟨by cases h9 : aheadB d; rfl; exact absurd h9 h2, by omega⟩⟩
      · rw [if_neg h3] at h; cases h
  · rw [if_neg h1] at h; cases h
set_option maxHeartbeats 1000000 in
set_option maxRecDepth 100000 in
theorem beside_c (b o : Nat) (k : Int) (n c : Nat) (p : Option Addr) (i : Nat) (d : Int) (w : World) (h0 : w.cell? ⟨b, o, none⟩ = some (.int .i64 k)) (h4 : w.cell? ⟨b, o + 4, none⟩ = some (.slice p n c)) (hi : i < n) (hn : n ≤ 1152921504606846976) :
    Calls Try.prog 87 #[.pointer (some ⟨b, o, none⟩), .int .i64 (i : Int), .int .i64 d] w fun e w' => e = .returned (besV (besI k n i d)) ∧ w = w' := by
  obtain ⟨r, hr⟩ : ∃ r, r = besI k n i d := ⟨_, rfl⟩
  rw [← hr]
  unfold besI at hr
  have HA := Lib.hid (fun W => ahead_c d W)
  have HL := Lib.hid (fun W => along_c k d W)
  obtain ⟨ah, hah⟩ : ∃ z, z = aheadB d := ⟨_, rfl⟩
  obtain ⟨al, hal⟩ : ∃ z, z = alongB k d := ⟨_, rfl⟩
  rw [← hah] at HA hr
  rw [← hal] at HL hr
  clear hah hal
  have hw1 : IntKind.i64.wrap ((i : Int) + 1) = (i : Int) + 1 := IntWalk.i64_in _ (by omega)
  have hw2 : IntKind.i64.wrap ((i : Int) - 1) = (i : Int) - 1 := IntWalk.i64_in _ (by omega)
  cases al
  · replace hr : r = none := by rw [hr]; rfl
    subst hr
    cases ah
    all_goals
      go_enter Try.func87, Try.ntmps87
      go_wp2_with (first | (go_at_call 106; ((with_reducible refine (HA.out _).mono ?_); rintro e1 w1 ⟨rfl, rfl⟩)) | (go_at_call 107; ((with_reducible refine (HL.out _).mono ?_); rintro e1 w1 ⟨rfl, rfl⟩)))
      go_ret2
      exact ⟨rfl, rfl⟩
  · cases ah
    · by_cases h3 : i + 1 < n
      · replace hr : r = some (i + 1) := by rw [hr, if_pos rfl, if_neg (by simp), if_pos h3]
        subst hr
        have g1 : ¬ ((i : Int) + 1 < 0) := by omega
        have g2 : ¬ ((n : Int) ≤ (i : Int) + 1) := by omega
        go_enter Try.func87, Try.ntmps87
        go_wp2_with (first | (go_at_call 106; ((with_reducible refine (HA.out _).mono ?_); rintro e1 w1 ⟨rfl, rfl⟩)) | (go_at_call 107; ((with_reducible refine (HL.out _).mono ?_); rintro e1 w1 ⟨rfl, rfl⟩)))
        go_ret2
        exact ⟨by simp [besV], rfl⟩
      · replace hr : r = none := by rw [hr, if_pos rfl, if_neg (by simp), if_neg h3]
        subst hr
        have g1 : ¬ ((i : Int) + 1 < 0) := by omega
        have g2 : ((n : Int) ≤ (i : Int) + 1) := by omega
        go_enter Try.func87, Try.ntmps87
        go_wp2_with (first | (go_at_call 106; ((with_reducible refine (HA.out _).mono ?_); rintro e1 w1 ⟨rfl, rfl⟩)) | (go_at_call 107; ((with_reducible refine (HL.out _).mono ?_); rintro e1 w1 ⟨rfl, rfl⟩)))
        go_ret2
        exact ⟨rfl, rfl⟩
    · by_cases h3 : i = 0
      · replace hr : r = none := by rw [hr, if_pos rfl, if_pos rfl, if_pos h3]
        subst hr
        have g1 : (i : Int) - 1 < 0 := by omega
        go_enter Try.func87, Try.ntmps87
        go_wp2_with (first | (go_at_call 106; ((with_reducible refine (HA.out _).mono ?_); rintro e1 w1 ⟨rfl, rfl⟩)) | (go_at_call 107; ((with_reducible refine (HL.out _).mono ?_); rintro e1 w1 ⟨rfl, rfl⟩)))
        go_ret2
        exact ⟨rfl, rfl⟩
      · replace hr : r = some (i - 1) := by rw [hr, if_pos rfl, if_pos rfl, if_neg h3]
        subst hr
        have g1 : ¬ ((i : Int) - 1 < 0) := by omega
        have g2 : ¬ ((n : Int) ≤ (i : Int) - 1) := by omega
        have g3 : ((i - 1 : Nat) : Int) = (i : Int) - 1 := by omega
        go_enter Try.func87, Try.ntmps87
        go_wp2_with (first | (go_at_call 106; ((with_reducible refine (HA.out _).mono ?_); rintro e1 w1 ⟨rfl, rfl⟩)) | (go_at_call 107; ((with_reducible refine (HL.out _).mono ?_); rintro e1 w1 ⟨rfl, rfl⟩)))
        go_ret2
        exact ⟨by simp [besV, g3], rfl⟩
/-- The last seen client of a container. -/
def lastI (y : Con) : Int := if y.a.k = 0 then y.a.c else topI y
end Go.Proofs.Ytbbmfpdlkogkfaa.Co
end
section
namespace Go.Proofs.Ytbbmfpdlkogkfaa.Co
open Go.RowKit Go.Shelf
theorem nodes12_c (Z : Nat → Prop) : ∀ (x : Con) (sv : Value) (n : Int) (w : World), KV w Z x.ks sv → 0 ≤ n → n ≤ 500 →
    Calls Try.prog 46 #[conV x.a sv, .int .i64 n] w fun e w' => e = .returned (.int .i64 (nodesC x n)) ∧ Below w.heap.size w w' := by
  intro x
  induction x using Tr.ind with
  | h a ks ih =>
    intro sv n w hK h0 h1
    obtain ⟨p, cap, rfl, hl⟩ : ∃ p cap, sv = .slice p ks.length cap ∧ ks.length ≤ 1152921504606846976 := hK.slice
    have hK : KV w Z ks (.slice p ks.length cap) := hK
    show Calls Try.prog 46 #[.agg #[.int .i64 a.k, .int .i64 a.w, .int .i64 a.c, .int .i64 a.s, .slice p ks.length cap], .int .i64 n] w fun e w' => e = .returned (.int .i64 (nodesL ks (n + 1))) ∧ Below w.heap.size w w'
    have hN := nodesL_le a
    obtain ⟨m, hm⟩ : ∃ m, m = ks.length := ⟨_, rfl⟩
    rw [← hm] at hl hK ⊢
    have HM := Lib.hid hm
    have HK := Lib.hid hK
    have HN := Lib.hid hN
    have IH := Lib.hid ih
    clear hm hK hN ih
    have hB := (Below.refl w.heap.size w).alloc (Nat.le_refl _) (.cells #[.int .i64 a.k, .int .i64 a.w, .int .i64 a.c, .int .i64 a.s, .slice p m cap] 24)
    have hQ := Blk.new w 24 #[.int .i64 a.k, .int .i64 a.w, .int .i64 a.c, .int .i64 a.s, .slice p m cap]
    go_enter Try.func46, Try.ntmps46
    go_wp2_with fail
    go_loopw [1, 5] (fun u z wr => ∃ k : Nat, k ≤ m ∧ z = .int .i64 k ∧ u = .int .i64 (nodesL (ks.take k) (n + 1)) ∧ Below w.heap.size w wr ∧ Blk wr w.heap.size 24 #[.int .i64 a.k, .int .i64 a.w, .int .i64 a.c, .int .i64 a.s, .slice p m cap]) (fun _ z _ => m - (intOf z).toNat)
    case atStart => exact ⟨0, Nat.zero_le _, rfl, rfl, hB, hQ⟩
    case round =>
      obtain ⟨k, hk, rfl, rfl, hW, hq⟩ := hrel
      have hN2 := HN.out (ks.take k) n h0 h1
      have hz0 : 0 < nodesL (ks.take k) (n + 1) := by omega
      have hz1 : nodesL (ks.take k) (n + 1) ≤ 501 := hN2.2
      clear hN2
      by_cases hlt : k < m
      · by_cases hs : nodesL (ks.take k) (n + 1) ≤ 500
        · obtain ⟨x, hx⟩ : ∃ x, ks[k]? = some x := ⟨_, List.getElem?_eq_getElem (by rw [← HM.out]; exact hlt)⟩
          have hK1 := HK.out.same (Z' := Z) (w' := wr) (fun _ h => h) hW.size fun b _ hl => hW.block b hl
          obtain ⟨-, b, o, s', rfl, -, hb1, -, hk1, c0, c1, c2, c3, c4⟩ := hK1.kid hx
          have HI := Lib.hid (IH.out x (List.mem_of_getElem? hx) s' (nodesL (ks.take k) (n + 1)) wr hk1 (by omega) hs)
          have HE := Lib.hid (nodesL_snoc hx (n + 1) hs)
          clear hK1 hk1 hx
          obtain ⟨z, hz⟩ : ∃ z, z = nodesL (ks.take k) (n + 1) := ⟨_, rfl⟩
          rw [← hz] at HI HE hs hz0 hz1 ⊢
          clear hz
          obtain ⟨q4, qf⟩ : wr.cell? ⟨w.heap.size, 4, none⟩ = some (.slice (some ⟨b, o, none⟩) m cap) ∧ wr.frozen? ⟨w.heap.size, 4, none⟩ = false := ⟨hq.at_ (i := 4) rfl, hq.frozen 4⟩
          go_wp2_with fail
          refine HI.out.mono ?_
          rintro e w1 ⟨rfl, hb⟩
          rw [← HE.out]
          have hW1 := hW.trans (hb.mono hW.size)
          have hq1 := hq.next hb
          clear hb hW hq c0 c1 c2 c3 c4 q4 qf
          go_wp2_with fail
          go_roundw
          case rel => exact ⟨k + 1, by omega, by go_num, rfl, hW1, hq1⟩
          case measure => simp [intOf]; omega
        · have HE := Lib.hid (nodesL_all ks k (n + 1) (.inl (by omega)))
          obtain ⟨q4, qf⟩ : wr.cell? ⟨w.heap.size, 4, none⟩ = some (.slice p m cap) ∧ wr.frozen? ⟨w.heap.size, 4, none⟩ = false := ⟨hq.at_ (i := 4) rfl, hq.frozen 4⟩
          clear hq
          obtain ⟨z, hz⟩ : ∃ z, z = nodesL (ks.take k) (n + 1) := ⟨_, rfl⟩
          rw [← hz] at HE hs hz0 hz1 ⊢
          clear hz
          go_wp2_with fail
          go_ret
          exact ⟨ret_int HE.out.symm, hW⟩
      · have HE := Lib.hid (nodesL_all ks k (n + 1) (.inr (by have := HM.out; omega)))
        obtain ⟨q4, qf⟩ : wr.cell? ⟨w.heap.size, 4, none⟩ = some (.slice p m cap) ∧ wr.frozen? ⟨w.heap.size, 4, none⟩ = false := ⟨hq.at_ (i := 4) rfl, hq.frozen 4⟩
        clear hq
        obtain ⟨z, hz⟩ : ∃ z, z = nodesL (ks.take k) (n + 1) := ⟨_, rfl⟩
        rw [← hz] at HE hz0 hz1 ⊢
        clear hz
        go_wp2_with fail
        go_ret
        exact ⟨ret_int HE.out.symm, hW⟩
theorem last_c (Z : Nat → Prop) (y : Con) (sv : Value) (w : World) (hK : KV w Z y.ks sv) (hw : y.a.wide) (hd : ht y ≤ 1000000) :
    Calls Try.prog 88 #[conV y.a sv] w fun e w' => e = .returned (.int .i64 (lastI y)) ∧ Below w.heap.size w w' := by
  obtain ⟨p, cap, rfl, -⟩ := hK.slice
  obtain ⟨n, hn⟩ : ∃ n, n = y.ks.length := ⟨_, rfl⟩
  rw [← hn] at hK ⊢
  have hb0 := (Below.refl w.heap.size w).alloc (Nat.le_refl _) (.cells #[.int .i64 y.a.k, .int .i64 y.a.w, .int .i64 y.a.c, .int .i64 y.a.s, .slice p n cap] 24)
  have hq0 := Blk.new w 24 #[.int .i64 y.a.k, .int .i64 y.a.w, .int .i64 y.a.c, .int .i64 y.a.s, .slice p n cap]
  have HT := Lib.hid (Top_c y (.slice p n cap) _ (hK.next hb0).all hw hd)
  have HB := Lib.hid hb0
  have HQ := Lib.hid hq0
  obtain ⟨r, hr⟩ : ∃ r, r = lastI y := ⟨_, rfl⟩
  rw [← hr]
  unfold lastI at hr
  clear hn hK hw hd hb0 hq0
  show Calls Try.prog 88 #[.agg #[.int .i64 y.a.k, .int .i64 y.a.w, .int .i64 y.a.c, .int .i64 y.a.s, .slice p n cap]] w _
  obtain ⟨⟨b0, b1, b2, b3, b4⟩, -⟩ := c5 HQ.out
  by_cases h0 : y.a.k = 0
  · rw [if_pos h0] at hr
    have HR := Lib.hid hr
    have hk : (y.a.k == 0) = true := by simpa using h0
    clear hr HT h0
    go_enter Try.func88, Try.ntmps88
    go_wp2_with fail
    go_ret
    exact ⟨ret_int HR.out.symm, HB.out⟩
  · rw [if_neg h0] at hr
    rw [← hr] at HT
    have hk : (y.a.k == 0) = false := by simpa using h0
    clear hr h0
    go_enter Try.func88, Try.ntmps88
    go_wp2_with fail
    refine HT.out.mono ?_
    rintro e w1 ⟨rfl, hb⟩
    have HB1 := HB.out.trans (hb.mono HB.out.size)
    clear hb
    go_wp2_with fail
    go_ret
    exact ⟨rfl, HB1⟩
/-- Why nothing can be gone to. -/
def askW (x : Con) (c d : Int) : Int := if d < 1 ∨ 4 < d then 1 else askedI x c
theorem askW_zero {x : Con} {c d : Int} (h : askW x c d = 0) : 1 ≤ d ∧ d ≤ 4 ∧ treeB x = true ∧ hasB x c = true := by
  unfold askW at h
  by_cases h1 : d < 1 ∨ 4 < d
  · rw [if_pos h1] at h; exact absurd h (by decide)
  rw [if_neg h1] at h
  unfold askedI at h
  by_cases h2 : treeB x = false
  · rw [if_pos h2] at h; exact absurd h (by decide)
  rw [if_neg h2] at h
  by_cases h3 : hasB x c = false
  · rw [if_pos h3] at h; exact absurd h (by decide)
  exact ⟨by omega, by omega, by simpa using h2, by simpa using h3⟩
/-- What find tells. -/
def FoundW (x : Con) (c d : Int) (w : World) (e : Ending) (w' : World) : Prop :=
  Below w.heap.size w w' ∧ ((askW x c d ≠ 0 ∧ e = .returned (.tuple #[.slice none 0 0, .int .i64 (askW x c d)])) ∨ (askW x c d = 0 ∧ ∃ u v, IsWay x c u ∧ findI x c = some u ∧ e = .returned (.tuple #[v, .int .i64 0]) ∧ WV w' (fun _ => True) u v))
set_option maxHeartbeats 1000000 in
theorem wfind_c (x : Con) (sv : Value) (c d : Int) (w : World) (hK : KV w (fun b => b < w.heap.size) x.ks sv) (hw : x.a.wide) (hd : ht x ≤ 1000000) :
    Calls Try.prog 85 #[conV x.a sv, .int .i64 c, .int .i64 d] w (FoundW x c d w) := by
  obtain ⟨p, cap, rfl, -⟩ := hK.slice
  obtain ⟨n, hn⟩ : ∃ n, n = x.ks.length := ⟨_, rfl⟩
  rw [← hn] at hK ⊢
  obtain ⟨R, hR⟩ : ∃ R, R = FoundW x c d w := ⟨_, rfl⟩
  have hRe : ∀ e w', R e w' ↔ FoundW x c d w e w' := by rw [hR]; exact fun _ _ => Iff.rfl
  rw [← hR]
  have HR := Lib.hid hRe
  have hb0 := (Below.refl w.heap.size w).alloc (Nat.le_refl _) (.cells #[.int .i64 x.a.k, .int .i64 x.a.w, .int .i64 x.a.c, .int .i64 x.a.s, .slice p n cap] 24)
  have hq0 := Blk.new w 24 #[.int .i64 x.a.k, .int .i64 x.a.w, .int .i64 x.a.c, .int .i64 x.a.s, .slice p n cap]
  have HC := Lib.hid (check_c _ x (.slice p n cap) _ (hK.next hb0).all hw hd (fun _ h => h))
  rw [checkI_eq] at HC
  have HF := Lib.hid (fun W (h : Below w.heap.size w W) => Find_c x (.slice p n cap) c W (hK.next h).all hw hd)
  have HB := Lib.hid hb0
  have HQ := Lib.hid hq0
  clear hn hR hRe hK hw hd hb0 hq0
  show Calls Try.prog 85 #[.agg #[.int .i64 x.a.k, .int .i64 x.a.w, .int .i64 x.a.c, .int .i64 x.a.s, .slice p n cap], .int .i64 c, .int .i64 d] w R
  obtain ⟨⟨b0, b1, b2, b3, b4⟩, -⟩ := c5 HQ.out
  by_cases h1 : d < 1
  · have HA : Hid (askW x c d = 1) := by show _ = _; unfold askW; rw [if_pos (.inl h1)]
    clear HC HF
    go_enter Try.func85, Try.ntmps85
    go_wp2_with fail
    refine (HR.out _ _).2 ⟨HB.out, .inl ⟨by rw [HA.out]; decide, by rw [HA.out] <;> rfl⟩⟩
  by_cases h2 : 4 < d
  · have HA : Hid (askW x c d = 1) := by show _ = _; unfold askW; rw [if_pos (.inr h2)]
    clear HC HF
    go_enter Try.func85, Try.ntmps85
    go_wp2_with fail
    refine (HR.out _ _).2 ⟨HB.out, .inl ⟨by rw [HA.out]; decide, by rw [HA.out] <;> rfl⟩⟩
  have HA : Hid (askW x c d = askedI x c) := by show _ = _; unfold askW; rw [if_neg (by omega)]
  by_cases ht : treeB x = true
  rotate_left
  · have hf : treeB x = false := by cases h : treeB x; rfl; exact absurd h ht
    rw [if_pos hf] at HC
    have HA : Hid (askW x c d = 110) := by show _ = _; rw [HA.out]; unfold askedI; rw [if_pos hf]
    clear HF ht hf
    go_enter Try.func85, Try.ntmps85
    go_wp2_with fail
    refine HC.out.mono ?_
    rintro e w1 ⟨rfl, hb⟩
    have HB1 := HB.out.trans (hb.mono HB.out.size)
    clear hb
    go_wp2_with fail
    exact (HR.out _ _).2 ⟨HB1, .inl ⟨by rw [HA.out]; decide, by rw [HA.out] <;> rfl⟩⟩
  rw [if_neg (by rw [ht]; simp)] at HC
  have HT := Lib.hid ht
  have HA2 : Hid (askW x c d = if hasB x c = false then 6 else 0) := by show _ = _; rw [HA.out]; unfold askedI; rw [if_neg (by rw [ht]; simp)]
  clear ht HA
  go_enter Try.func85, Try.ntmps85
  go_wp2_with fail
  refine HC.out.mono ?_
  rintro e w1 ⟨rfl, hb⟩
  have HB1 := Lib.hid (HB.out.trans (hb.mono HB.out.size))
  have HQ1 := Lib.hid (HQ.out.next hb)
  clear hb HC HB HQ b0 b1 b2 b3 b4
  obtain ⟨⟨b0, b1, b2, b3, b4⟩, -⟩ := c5 HQ1.out
  have HFF := Lib.hid (HF.out w1 HB1.out)
  go_wp2_with fail
  refine HFF.out.mono ?_
  rintro e w2 ⟨hb, v, rfl, hv⟩
  have HB2 := HB1.out.trans (hb.mono HB1.out.size)
  rcases findI_spec (c := c) HT.out with ⟨g1, g2⟩ | ⟨g1, u, g2, g3⟩
  · rw [g2] at hv ⊢
    have hv : v = .slice none 0 0 := hv
    subst hv
    rw [if_pos g1] at HA2
    clear hb g1 g2 HF HFF
    go_wp2_with fail
    exact (HR.out _ _).2 ⟨HB2, .inl ⟨by rw [HA2.out]; decide, by rw [HA2.out] <;> rfl⟩⟩
  · rw [g3] at hv ⊢
    have hv : WV w2 (fun _ => True) u v := hv
    rw [if_neg (by rw [g1]; simp)] at HA2
    have HV := Lib.hid hv
    have HU := Lib.hid (And.intro g2 g3)
    clear hb g1 g2 g3 hv HF HFF
    go_wp2_with fail
    exact (HR.out _ _).2 ⟨HB2, .inr ⟨HA2.out, u, v, HU.out.1, HU.out.2, rfl, HV.out⟩⟩
end Go.Proofs.Ytbbmfpdlkogkfaa.Co
end
section
namespace Go.Proofs.Ytbbmfpdlkogkfaa.Co
open Go.RowKit Go.Shelf
/-- From a place of the way upward: the first split that lies so, and has one beside. -/
def nextN (x : Con) (u : List Nat) (d : Int) : Nat → Int × Int
  | 0 => (0, 120)
  | m + 1 => match get x (u.take m), u[m]? with
    | some p, some i => match besI p.a.k p.ks.length i d with
      | some j => match p.ks[j]? with
        | some y => (lastI y, 0)
        | none => (0, 120)
      | none => nextN x u d m
    | _, _ => (0, 120)
theorem nextN_no {x p : Con} {u : List Nat} {d : Int} {m i : Nat} (hp : get x (u.take m) = some p) (hi : u[m]? = some i) (hb : besI p.a.k p.ks.length i d = none) : nextN x u d (m + 1) = nextN x u d m := by
  simp only [nextN, hp, hi, hb]
theorem nextN_yes {x p y : Con} {u : List Nat} {d : Int} {m i j : Nat} (hp : get x (u.take m) = some p) (hi : u[m]? = some i) (hb : besI p.a.k p.ks.length i d = some j) (hy : p.ks[j]? = some y) : nextN x u d (m + 1) = (lastI y, 0) := by
  simp only [nextN, hp, hi, hb, hy]
def nextI (x : Con) (c d : Int) : Int × Int := if askW x c d ≠ 0 then (0, askW x c d) else match findI x c with
  | some u => nextN x u d u.length
  | none => (0, 6)
theorem nextI_at {x : Con} {c d : Int} {u : List Nat} (h : askW x c d = 0) (hu : findI x c = some u) : nextI x c d = nextN x u d u.length := by
  unfold nextI; rw [if_neg (by rw [h]; simp), hu]
theorem nextI_no {x : Con} {c d : Int} (h : askW x c d ≠ 0) : nextI x c d = (0, askW x c d) := by unfold nextI; rw [if_pos h]
theorem ConAt.of {w : World} {g : Nat} {x : Con} {sv : Value} {Z : Nat → Prop} (hK : KV w Z x.ks sv) (hw : x.a.wide) (hQ : Blk w g 24 #[.int .i64 x.a.k, .int .i64 x.a.w, .int .i64 x.a.c, .int .i64 x.a.s, sv]) : ConAt w Z g 0 x := by
  obtain ⟨⟨b0, b1, b2, b3, b4⟩, -⟩ := c5 hQ
  exact ⟨hQ.lt, hw, sv, hK, b0, b1, b2, b3, b4⟩
/-- What stands at a place of a way. -/
theorem way_step9 {x s : Con} {u : List Nat} {m : Nat} (h : get x u = some s) (hm : m < u.length) : ∃ p i y, get x (u.take m) = some p ∧ u[m]? = some i ∧ p.ks[i]? = some y ∧ u.take (m + 1) = u.take m ++ [i] ∧ get x (u.take (m + 1)) = some y := by
  obtain ⟨p, h1, h2⟩ := get_take h m
  have hi : u[m]? = some u[m] := List.getElem?_eq_getElem hm
  rw [List.drop_eq_getElem_cons hm] at h2
  obtain ⟨a, ks⟩ := p
  obtain ⟨y, hy, -⟩ := get_cons h2
  refine ⟨_, u[m], y, h1, hi, hy, take_snoc hi, ?_⟩
  rw [take_snoc hi, get_append _ h1]
  simp only [get]
  rw [hy]
set_option maxHeartbeats 2000000 in
set_option maxRecDepth 100000 in
theorem Next_c (x : Con) (sv : Value) (c d : Int) (w : World) (hK : KV w (fun b => b < w.heap.size) x.ks sv) (hw : x.a.wide) (hd : ht x ≤ 1000000) :
    Calls Try.prog 48 #[conV x.a sv, .int .i64 c, .int .i64 d] w fun e w' => e = .returned (.tuple #[.int .i64 (nextI x c d).1, .int .i64 (nextI x c d).2]) ∧ Below w.heap.size w w' := by
  obtain ⟨p, cap, rfl, -⟩ := hK.slice
  obtain ⟨n, hn⟩ : ∃ n, n = x.ks.length := ⟨_, rfl⟩
  rw [← hn] at hK ⊢
  obtain ⟨r, hr⟩ : ∃ r, r = nextI x c d := ⟨_, rfl⟩
  rw [← hr]
  have HRR := Lib.hid hr
  have hb0 := (Below.refl w.heap.size w).alloc (Nat.le_refl _) (.cells #[.int .i64 x.a.k, .int .i64 x.a.w, .int .i64 x.a.c, .int .i64 x.a.s, .slice p n cap] 24)
  have hq0 := Blk.new w 24 #[.int .i64 x.a.k, .int .i64 x.a.w, .int .i64 x.a.c, .int .i64 x.a.s, .slice p n cap]
  have HF := Lib.hid (wfind_c x (.slice p n cap) c d _ (hK.next hb0).all hw hd)
  have HB := Lib.hid hb0
  have HQ := Lib.hid hq0
  have HK := Lib.hid hK
  have HW := Lib.hid hw
  have HHT := Lib.hid hd
  clear hn hr hb0 hq0 hK hw hd
  show Calls Try.prog 48 #[.agg #[.int .i64 x.a.k, .int .i64 x.a.w, .int .i64 x.a.c, .int .i64 x.a.s, .slice p n cap], .int .i64 c, .int .i64 d] w _
  obtain ⟨⟨b0, b1, b2, b3, b4⟩, -⟩ := c5 HQ.out
  go_enter Try.func48, Try.ntmps48
  go_wp2_with fail
  refine HF.out.mono ?_
  rintro e w1 ⟨hb, hh⟩
  have HB1 := Lib.hid (HB.out.trans (hb.mono HB.out.size))
  have HQ1 := Lib.hid (HQ.out.next hb)
  clear hb HF HB HQ b0 b1 b2 b3 b4
  rcases hh with ⟨h0, rfl⟩ | ⟨h0, u, v, hu, hf, rfl, hv⟩
  · obtain ⟨a, ha⟩ : ∃ a, a = askW x c d := ⟨_, rfl⟩
    have HR : Hid (r = (0, a)) := by show _ = _; rw [HRR.out, nextI_no h0, ha]
    rw [← ha] at h0 ⊢
    have hne : (a == 0) = false := by simpa using h0
    clear ha h0
    go_wp2_with fail
    go_ret2
    exact ⟨by rw [HR.out] <;> rfl, HB1.out⟩
  · have HR : Hid (r = nextN x u d u.length) := by show _ = _; rw [HRR.out, nextI_at h0 hf]
    have HU : Hid (∃ s, get x u = some s) := by obtain ⟨_, _, _, y, _, _, _, _, _, h⟩ := hu; exact ⟨y, h⟩
    obtain ⟨q, cu, rfl⟩ := hv.slice
    have HV := Lib.hid hv
    obtain ⟨m, hm⟩ : ∃ m, m = u.length := ⟨_, rfl⟩
    have hmm : m ≤ 1152921504606846976 ∧ m ≤ cu := by
      obtain ⟨q', c', e, h2, h3, -⟩ := hv
      obtain ⟨-, -, rfl⟩ := Value.slice.inj e
      exact ⟨hm ▸ h2, hm ▸ h3⟩
    obtain ⟨hm1, hm2⟩ := hmm
    rw [← hm] at HR ⊢
    have HM := Lib.hid hm
    clear HRR h0 hu hf hv hm
    go_wp2_with fail
    go_loopw [10] (fun z wr => ∃ k : Nat, k ≤ m ∧ z = .int .i64 (k : Int) ∧ Asd (nextN x u d m = nextN x u d k) ∧ Below w.heap.size w wr ∧ Below w1.heap.size w1 wr) (fun z _ => (intOf z).toNat)
    case atStart => exact ⟨m, Nat.le_refl _, rfl, rfl, HB1.out, Below.refl _ _⟩
    case round =>
      obtain ⟨k, hk, rfl, hnx, hW, hW1⟩ := hrel
      have hnx : nextN x u d m = nextN x u d k := hnx
      by_cases hk0 : k = 0
      · subst hk0
        have HR2 : Hid (r = (0, 120)) := by show _ = _; rw [HR.out, hnx]; rfl
        clear hnx
        go_wp2_with fail
        go_ret2
        exact ⟨by rw [HR2.out] <;> rfl, hW⟩
      · obtain ⟨k', rfl⟩ : ∃ k', k = k' + 1 := ⟨k - 1, by omega⟩
        obtain ⟨s, hs⟩ := HU.out
        obtain ⟨P, i, y0, h1, h2, h3, h4, h5⟩ := way_step9 (m := k') hs (by rw [← HM.out]; omega)
        have hA := ConAt.of (HK.out.next hW) HW.out (HQ1.out.next hW1)
        obtain ⟨b', o', hP, hAP⟩ := hA.path h1
        have hvk := HV.out.next hW1
        rw [← HM.out] at hvk
        have hvf : WV wr (fun _ => True) (u.take (k' + 1)) (.slice q (k' + 1) cu) := by
          have := HV.out.next hW1
          exact this.front (k' + 1) (by rw [← HM.out]; omega)
        rw [h4] at hvf
        have HCU := Lib.hid (cut_p _ _ _ b' o' _ _ _ wr hP hvf)
        obtain ⟨hlt, hwP, sP, hKP, c0, c1, c2, c3, c4⟩ := hAP
        obtain ⟨pp, cp, rfl, hlP⟩ := hKP.slice
        have hil := (List.getElem?_eq_some_iff.1 h3).1
        obtain ⟨nP, hnP⟩ : ∃ n, n = P.ks.length := ⟨_, rfl⟩
        rw [← hnP] at hil hlP c4 hKP
        have HKP := Lib.hid hKP
        have HNX := Lib.hid hnx
        have HBS := Lib.hid (fun m9 => beside_c b' o' P.a.k nP cp pp i d (wr.drewN m9) c0 c4 hil hlP)
        obtain ⟨br, hbr⟩ : ∃ b, b = besI P.a.k nP i d := ⟨_, rfl⟩
        rw [← hbr] at HBS
        have HH := Lib.hid (And.intro h1 (And.intro h2 hbr))
        have HNP := Lib.hid hnP
        have hkk : k' + 1 ≤ cu := by omega
        have hki : (0 : Int) < ((k' + 1 : Nat) : Int) := by omega
        have hki2 : ((k' + 1 : Nat) : Int) ≤ (m : Int) := by omega
        have hw1 : IntKind.i64.wrap (((k' + 1 : Nat) : Int) - 1) = (k' : Int) := by rw [IntWalk.i64_in _ (by omega)]; omega
        clear hA hP hvk hvf hKP hnx hbr h1 h2 h3 h4 h5 hs hnP hwP c1 c2 c3 hk0
        have hWr := Lib.hid hW
        have hWr1 := Lib.hid hW1
        clear hW hW1
        go_wp2_with fail
        refine HCU.out.mono ?_
        rintro e w2 ⟨rfl, m9, rfl⟩
        go_wp2_with fail
        refine (HBS.out m9).mono ?_
        rintro e w3 ⟨rfl, rfl⟩
        cases br with
        | none =>
          have HE : Hid (nextN x u d m = nextN x u d k') := by
            show _ = _
            rw [HNX.out, nextN_no HH.out.1 HH.out.2.1 (by rw [← HNP.out]; exact HH.out.2.2.symm)]
          clear HCU HBS HNX
          simp only [besV]
          go_wp2_with fail
          go_roundw
          case rel => exact ⟨k', by omega, by go_num, HE.out, below_drewN hWr.out _, below_drewN hWr1.out _⟩
          case measure => simp [intOf]
        | some j =>
          have hjb := besI_lt HH.out.2.2.symm hil
          obtain ⟨y, hy⟩ : ∃ y, P.ks[j]? = some y := ⟨_, List.getElem?_eq_getElem (by rw [← HNP.out]; exact hjb.1)⟩
          have HE : Hid (r = (lastI y, 0)) := by
            show _ = _
            rw [HR.out, HNX.out, nextN_yes HH.out.1 HH.out.2.1 (by rw [← HNP.out]; exact HH.out.2.2.symm) hy]
          obtain ⟨-, gy, oy, sy, rfl, -, -, hwy, hky, y0, y1, y2, y3, y4⟩ := HKP.out.kid hy
          have hyt : ht y ≤ 1000000 := by
            have g1 : get x (u.take k' ++ [j]) = some y := by
              rw [get_append _ HH.out.1]; obtain ⟨a, ks⟩ := P; simp only [get]; rw [show ks[j]? = some y from hy]
            have := ht_get g1
            have := HHT.out
            omega
          have HL := Lib.hid (fun m9 => last_c (fun b => b < w.heap.size) y sy (wr.drewN m9) (hky.drewN m9) hwy hyt)
          have hj0 : ((j : Nat) : Int) < (nP : Int) := by omega
          have hj1 : (0 : Int) ≤ (j : Int) := by omega
          obtain ⟨lr, hlr⟩ : ∃ l, l = lastI y := ⟨_, rfl⟩
          rw [← hlr] at HE HL
          clear HCU HBS HNX hjb hy hwy hky hyt HKP HH hlr
          simp only [besV]
          go_wp2_with fail
          refine (HL.out m9).mono ?_
          rintro e w4 ⟨rfl, hb⟩
          have HB4 := (below_drewN hWr.out m9).trans (hb.mono (below_drewN hWr.out m9).size)
          clear hb HL
          go_wp2_with fail
          go_ret2
          exact ⟨by rw [HE.out] <;> rfl, HB4⟩
end Go.Proofs.Ytbbmfpdlkogkfaa.Co
end
section
namespace Go.Proofs.Ytbbmfpdlkogkfaa.Co
open Go.RowKit Go.Shelf
theorem split_shape9 {a : D} {ks : List Con} {d : Nat} (h : shape (.mk a ks) d = true) (hk : a.k ≠ 0) : d ≤ 8 ∧ 1 ≤ a.w ∧ a.w ≤ 1048576 ∧ 1 ≤ a.k ∧ a.k ≤ 4 ∧ a.c = 0 ∧ a.s = 0 ∧ ks.length ≤ 64 ∧ (d = 0 ∨ 0 < ks.length) ∧ ∀ x ∈ ks, shape x (d + 1) = true := by
  have hh := h
  simp only [shape, Bool.and_eq_true] at h
  have h1 := h.1
  unfold soundB at h1
  split at h1
  · cases h1
  · rename_i h2
    simp only [Tr.a_mk] at h2
    rw [if_neg (by simpa using hk)] at h1
    have h1 := of_decide_eq_true h1
    simp only [Tr.a_mk, Tr.ks_mk] at h1
    obtain ⟨h3, h4, h5, h6, h7, h8⟩ := h1
    exact ⟨by omega, by omega, by omega, h3, h4, h5, h6, h7, h8, fun x hx => shape_kid hh hx⟩
theorem shape_splitI9 {a : D} {ks : List Con} {d : Nat} (h1 : d ≤ 8) (h2 : 1 ≤ a.w) (h3 : a.w ≤ 1048576) (h4 : 1 ≤ a.k) (h5 : a.k ≤ 4) (h6 : a.c = 0) (h7 : a.s = 0) (h8 : ks.length ≤ 64) (h9 : d = 0 ∨ 0 < ks.length) (h : ∀ x ∈ ks, shape x (d + 1) = true) : shape (.mk a ks) d = true := by
  simp only [shape, Bool.and_eq_true]
  refine ⟨?_, shapeL_of h⟩
  unfold soundB
  rw [if_neg (by simp only [Tr.a_mk]; omega), if_neg (by simp only [Tr.a_mk]; omega)]
  exact decide_eq_true ⟨h4, h5, h6, h7, h8, h9⟩
theorem shape_up9 : ∀ (x : Con) (d : Nat), shape x (d + 1) = true → 0 < d → shape x d = true := by
  intro x
  induction x using Tr.ind with
  | h a ks ih =>
    intro d h hd
    by_cases hk : a.k = 0
    · obtain ⟨p1, p2, p3, p4, p5, p6⟩ := leaf_shape h hk
      have hl := shape_leaf h hk
      simp only [Tr.ks_mk, Tr.a_mk] at *
      subst hl
      have e : (Tr.mk a [] : Con) = .mk ⟨0, a.w, a.c, a.s⟩ [] := by rw [← hk]
      rw [e]
      exact shape_leafI (by omega) hd p3 p4 p5 p6
    · obtain ⟨p1, p2, p3, p4, p5, p6, p7, p8, p9, p10⟩ := split_shape9 h hk
      exact shape_splitI9 (by omega) p2 p3 p4 p5 p6 p7 p8 (.inr (by omega)) fun y hy => ih y hy (d + 1) (p10 y hy) (by omega)
def seenI (l : List Con) : Int := (l.foldl topF (0, -1)).1
theorem all_leaf {y : Con} (hk : y.a.k = 0) : all y = [y] := by
  obtain ⟨a, ks⟩ := y
  simp only [Tr.a_mk] at hk
  simp [all, hk]
theorem all_pos : ∀ (y : Con) (d : Nat), shape y d = true → 0 < d → all y ≠ [] := by
  intro y
  induction y using Tr.ind with
  | h a ks ih =>
    intro d h hd
    by_cases hk : a.k = 0
    · rw [all_leaf (y := .mk a ks) hk]; simp
    · obtain ⟨-, -, -, -, -, -, -, -, p9, p10⟩ := split_shape9 h hk
      have hl : 0 < ks.length := by omega
      obtain ⟨z, hz⟩ : ∃ z, ks[0]? = some z := ⟨_, List.getElem?_eq_getElem hl⟩
      have hm := List.mem_of_getElem? hz
      have := ih z hm (d + 1) (p10 z hm) (by omega)
      rw [all_kid hk]
      intro h0
      rw [List.flatMap_eq_nil_iff] at h0
      exact this (h0 z hm)
theorem shape_one : ∀ (d : Nat) (y : Con), shape y (d + 1) = true → shape y 1 = true
  | 0, _, h => h
  | d + 1, y, h => shape_one d y (shape_up9 y (d + 1) h (by omega))
theorem sub_tree {x y : Con} {u : List Nat} (h : treeB x = true) (hy : get x u = some y) (hk : y.a.k ≠ 0) : treeB y = true := by
  obtain ⟨h1, h2, h3⟩ := tree_parts h
  have hs := shape_get h1 hy
  obtain ⟨l1, l2, e, -⟩ := all_put h1 hy
  obtain ⟨m1, m2, e2, -⟩ := clients_put h1 hy
  refine tree_of ?_ ?_ ?_
  · obtain ⟨a, ks⟩ := y
    obtain ⟨p1, p2, p3, p4, p5, p6, p7, p8, p9, p10⟩ := split_shape9 hs hk
    exact shape_splitI9 (by omega) p2 p3 p4 p5 p6 p7 p8 (.inl rfl) fun z hz => shape_one _ z (p10 z hz)
  · rw [e2] at h2
    exact (List.nodup_append.1 (List.nodup_append.1 h2).1).2.1
  · rw [e] at h3; simp only [List.length_append] at h3; omega
theorem sub_seen {x y : Con} {u : List Nat} (h : treeB x = true) (hy : get x u = some y) (hu : u ≠ []) : all y ≠ [] ∧ (∀ z ∈ all y, 0 ≤ z.a.s) ∧ lastI y = seenI (all y) ∧ (all y).length ≤ 128 := by
  obtain ⟨h1, h2, h3⟩ := tree_parts h
  have hs := shape_get h1 hy
  rw [Nat.zero_add] at hs
  obtain ⟨l1, l2, e, -⟩ := all_put h1 hy
  have hsn : ∀ z ∈ all y, 0 ≤ z.a.s := fun z hz => leaf_seen h (by rw [e]; simp [hz])
  have hlen : (all y).length ≤ 128 := by rw [e] at h3; simp only [List.length_append] at h3; omega
  refine ⟨all_pos y u.length hs (List.length_pos_iff.2 hu), hsn, ?_, hlen⟩
  unfold lastI seenI
  by_cases hk : y.a.k = 0
  · rw [if_pos hk, all_leaf hk]
    have := hsn y (by rw [all_leaf hk]; simp)
    simp only [List.foldl_cons, List.foldl_nil, topF]
    rw [if_pos (by omega)]
  · rw [if_neg hk]
    unfold topI
    rw [if_pos (sub_tree h hy hk)]
end Go.Proofs.Ytbbmfpdlkogkfaa.Co
end
section
namespace Go.Proofs.Ytbbmfpdlkogkfaa.Co
open Go.RowKit Go.Shelf
def byI (d : Int) : Int := if aheadB d = true then -1 else 1
theorem by_c (d : Int) (w : World) (h1 : 1 ≤ d) (h4 : d ≤ 4) : Calls Try.prog 90 #[.int .i64 d] w fun e w' => e = .returned (.int .i64 (byI d)) ∧ w = w' := by
  have hd : d = 1 ∨ d = 2 ∨ d = 3 ∨ d = 4 := by omega
  clear h1 h4
  rcases hd with rfl | rfl | rfl | rfl
  all_goals
    go_enter Try.func90, Try.ntmps90
    go_wp2
    go_ret
    exact ⟨rfl, rfl⟩
theorem along12_c (k d : Int) (w : World) (h1 : 1 ≤ d) : Calls Try.prog 91 #[.int .i64 k, .int .i64 d] w fun e w' => e = .returned (.bool (alongB k d)) ∧ w = w' := by
  obtain ⟨r, hr⟩ : ∃ r, r = alongB k d := ⟨_, rfl⟩
  rw [← hr]
  unfold alongB at hr
  by_cases h2 : d ≤ 2
  · rw [if_pos (by omega)] at hr
    have HR := Lib.hid hr
    clear hr h1
    go_enter Try.func91, Try.ntmps91
    go_wp2
    all_goals
      go_ret
      refine ⟨ret_bool ?_, rfl⟩
      rw [HR.out, Bool.eq_iff_iff]
      first | (simp; done) | (simp_all; done) | (simp_all; omega)
  · rw [if_neg (by omega)] at hr
    have HR := Lib.hid hr
    clear hr h1
    go_enter Try.func91, Try.ntmps91
    go_wp2
    all_goals
      go_ret
      refine ⟨ret_bool ?_, rfl⟩
      rw [HR.out, Bool.eq_iff_iff]
      first | (simp; done) | (simp_all; done) | (simp_all; omega)
set_option maxHeartbeats 1000000 in
theorem asked12_c (Z : Nat → Prop) (x : Con) (sv : Value) (c d : Int) (w : World) (hK : KV w Z x.ks sv) (hd : (all x).length ≤ 1000000) (hZ : ∀ b, Z b → b < w.heap.size) :
    Calls Try.prog 89 #[conV x.a sv, .int .i64 c, .int .i64 d] w fun e w' => e = .returned (.int .i64 (askW x c d)) ∧ Below w.heap.size w w' := by
  obtain ⟨p, cap, rfl, -⟩ := hK.slice
  obtain ⟨m, hm⟩ : ∃ m, m = x.ks.length := ⟨_, rfl⟩
  rw [← hm] at hK ⊢
  obtain ⟨r, hr⟩ : ∃ r, r = askW x c d := ⟨_, rfl⟩
  rw [← hr]
  unfold askW askedI at hr
  have hb0 := (Below.refl w.heap.size w).alloc (Nat.le_refl _) (.cells #[.int .i64 x.a.k, .int .i64 x.a.w, .int .i64 x.a.c, .int .i64 x.a.s, .slice p m cap] 24)
  have HQ := Lib.hid (Blk.new w 24 #[.int .i64 x.a.k, .int .i64 x.a.w, .int .i64 x.a.c, .int .i64 x.a.s, .slice p m cap])
  have HC := Lib.hid (CheckR_c Z x (.slice p m cap) _ (hK.next hb0) hd (fun b h => Nat.lt_of_lt_of_le (hZ b h) hb0.size))
  have HA := Lib.hid (fun (W : World) (h : Below w.heap.size w W) => Has_c Z x (.slice p m cap) c W (hK.next h) hd (fun b hb => Nat.lt_of_lt_of_le (hZ b hb) h.size))
  have HB := Lib.hid hb0
  rw [checkI_eq] at HC
  obtain ⟨tb, htb⟩ : ∃ t, t = treeB x := ⟨_, rfl⟩
  obtain ⟨hb9, hhb⟩ : ∃ t, t = hasB x c := ⟨_, rfl⟩
  rw [← htb] at HC hr
  rw [← hhb] at HA hr
  clear hm hb0 hK hZ hd htb hhb
  show Calls Try.prog 89 #[.agg #[.int .i64 x.a.k, .int .i64 x.a.w, .int .i64 x.a.c, .int .i64 x.a.s, .slice p m cap], .int .i64 c, .int .i64 d] w _
  obtain ⟨⟨b0, b1, b2, b3, b4⟩, -⟩ := c5 HQ.out
  by_cases h1 : d < 1
  · rw [if_pos (.inl h1)] at hr
    subst hr
    clear HC HA
    go_enter Try.func89, Try.ntmps89
    go_wp2_with fail
    go_ret
    exact ⟨rfl, HB.out⟩
  by_cases h2 : 4 < d
  · rw [if_pos (.inr h2)] at hr
    subst hr
    clear HC HA
    go_enter Try.func89, Try.ntmps89
    go_wp2_with fail
    go_ret
    exact ⟨rfl, HB.out⟩
  rw [if_neg (by omega)] at hr
  cases tb
  · rw [if_pos rfl] at hr
    subst hr
    rw [if_pos rfl] at HC
    clear HA
    go_enter Try.func89, Try.ntmps89
    go_wp2_with fail
    refine HC.out.mono ?_
    rintro e w1 ⟨rfl, hb⟩
    have HB1 := HB.out.trans (hb.mono HB.out.size)
    clear hb
    go_wp2_with fail
    go_ret
    exact ⟨rfl, HB1⟩
  · rw [if_neg (by simp)] at hr
    rw [if_neg (by simp)] at HC
    go_enter Try.func89, Try.ntmps89
    go_wp2_with fail
    refine HC.out.mono ?_
    rintro e w1 ⟨rfl, hb⟩
    have HB1 := Lib.hid (HB.out.trans (hb.mono HB.out.size))
    clear b0 b1 b2 b3 b4
    obtain ⟨⟨b0, b1, b2, b3, b4⟩, -⟩ := c5 (HQ.out.next hb)
    clear hb HB HC HQ
    go_wp2_with fail
    refine (HA.out w1 HB1.out).mono ?_
    rintro e w2 ⟨rfl, hb⟩
    have HB2 := HB1.out.trans (hb.mono HB1.out.size)
    clear hb
    cases hb9
    · rw [if_pos rfl] at hr
      subst hr
      go_wp2_with fail
      go_ret
      exact ⟨rfl, HB2⟩
    · rw [if_neg (by simp)] at hr
      subst hr
      go_wp2_with fail
      go_ret
      exact ⟨rfl, HB2⟩
set_option maxHeartbeats 4000000 in
theorem seen12_c (Z : Nat → Prop) (y : Con) (sv : Value) (w : World) (hK : KV w Z y.ks sv) (hd : (all y).length ≤ 1000000) (hZ : ∀ b, Z b → b < w.heap.size) (hw : ∀ z ∈ all y, z.a.wide) (h0 : all y ≠ []) (hs0 : ∀ z ∈ all y, 0 ≤ z.a.s) :
    Calls Try.prog 92 #[conV y.a sv] w fun e w' => e = .returned (.int .i64 (seenI (all y))) ∧ Below w.heap.size w w' := by
  obtain ⟨p, cap, rfl, -⟩ := hK.slice
  obtain ⟨m, hm⟩ : ∃ m, m = y.ks.length := ⟨_, rfl⟩
  rw [← hm] at hK ⊢
  obtain ⟨r, hr⟩ : ∃ r, r = seenI (all y) := ⟨_, rfl⟩
  rw [← hr]
  have hb0 := (Below.refl w.heap.size w).alloc (Nat.le_refl _) (.cells #[.int .i64 y.a.k, .int .i64 y.a.w, .int .i64 y.a.c, .int .i64 y.a.s, .slice p m cap] 24)
  have HQ := Lib.hid (Blk.new w 24 #[.int .i64 y.a.k, .int .i64 y.a.w, .int .i64 y.a.c, .int .i64 y.a.s, .slice p m cap])
  have HA := Lib.hid (fun (W : World) (h : Below w.heap.size w W) => All_c Z y (.slice p m cap) W (hK.next h) hd (fun b hb => Nat.lt_of_lt_of_le (hZ b hb) h.size))
  have HB := Lib.hid hb0
  obtain ⟨l, hl⟩ : ∃ l, l = all y := ⟨_, rfl⟩
  rw [← hl] at hd hw h0 hs0 hr HA
  have HR := Lib.hid hr
  have HWI := Lib.hid hw
  have HS0 := Lib.hid hs0
  have HD := Lib.hid hd
  have hlp : 0 < l.length := List.length_pos_iff.2 h0
  have HLP := Lib.hid hlp
  clear hm hb0 hK hZ hd hr hw hs0 h0 hl
  show Calls Try.prog 92 #[.agg #[.int .i64 y.a.k, .int .i64 y.a.w, .int .i64 y.a.c, .int .i64 y.a.s, .slice p m cap]] w _
  obtain ⟨⟨b0, b1, b2, b3, b4⟩, -⟩ := c5 HQ.out
  go_enter Try.func92, Try.ntmps92
  go_wp2_with fail
  refine (HA.out _ HB.out).mono ?_
  rintro e w2 ⟨hb, v, rfl, hrow⟩
  obtain ⟨pv, cv, rfl⟩ := hrow.slice
  have HKL := Lib.hid (KV.of_row hrow.e HWI.out HD.out).all
  have HB2 := Lib.hid (HB.out.trans (hb.mono HB.out.size))
  obtain ⟨x0, hx0⟩ : ∃ z, l[0]? = some z := ⟨_, List.getElem?_eq_getElem hlp⟩
  obtain ⟨-, g, o, s0, rfl, -, hgl, -, hk0, c0, c1, c2, c3, c4⟩ := HKL.out.kid hx0
  obtain ⟨p0, k0, rfl, -⟩ := hk0.slice
  obtain ⟨n0, hn0⟩ : ∃ n, n = x0.ks.length := ⟨_, rfl⟩
  rw [← hn0] at c4
  clear hk0 hn0
  simp only [Nat.zero_mul, Nat.add_zero] at c0 c1 c2 c3 c4
  obtain ⟨n, hn⟩ : ∃ n, n = l.length := ⟨_, rfl⟩
  rw [← hn] at hlp HKL ⊢
  have hn6 : n ≤ 1000000 := by rw [hn]; exact HD.out
  have HN := Lib.hid hn
  have HX0 := Lib.hid hx0
  have hnp : (0 : Int) < (n : Int) := by omega
  clear hb hrow HA hn hx0 HB HQ b0 b1 b2 b3 b4
  go_upto_region 3 with fail
  obtain ⟨w3, hw3⟩ : ∃ w3, w3 = w2.alloc (.cells #[.int .i64 x0.a.k, .int .i64 x0.a.w, .int .i64 x0.a.c, .int .i64 x0.a.s, .slice p0 n0 k0] 24) := ⟨_, rfl⟩
  have hq3 : Blk w3 w2.heap.size 24 #[.int .i64 x0.a.k, .int .i64 x0.a.w, .int .i64 x0.a.c, .int .i64 x0.a.s, .slice p0 n0 k0] := by rw [hw3]; exact Blk.new _ _ _
  have hb3 : Below w2.heap.size w2 w3 := by rw [hw3]; exact (Below.refl _ _).alloc (Nat.le_refl _) _
  rw [← hw3]
  clear hw3 c0 c1 c2 c3 c4
  go_wp2_with fail
  go_loopw [5] (fun z wr => ∃ i : Nat, 1 ≤ i ∧ i ≤ n ∧ z = .int .i64 (i : Int) ∧ Below w2.heap.size w2 wr ∧ ∃ (b : Con) (pb : Option Addr) (nb cb : Nat), Blk wr w2.heap.size 24 #[.int .i64 b.a.k, .int .i64 b.a.w, .int .i64 b.a.c, .int .i64 b.a.s, .slice pb nb cb] ∧ Asd ((l.take i).foldl topF (0, -1) = (b.a.c, b.a.s))) (fun z _ => n - (intOf z).toNat)
  case atStart =>
    refine ⟨1, Nat.le_refl _, by omega, rfl, hb3, x0, p0, n0, k0, hq3, ?_⟩
    show _ = _
    rw [top_step HX0.out (0, -1) rfl]
    unfold topF
    rw [if_pos]
    have := HS0.out x0 (List.mem_of_getElem? HX0.out)
    show (-1 : Int) < x0.a.s
    omega
  case round =>
    obtain ⟨i, hi1, hin, rfl, hW, b, pb, nb, cb, hq, hf⟩ := hrel
    clear hq3 hb3
    have HF := Lib.hid (show (l.take i).foldl topF (0, -1) = (b.a.c, b.a.s) from hf)
    have HW := Lib.hid hW
    have HQ := Lib.hid hq
    obtain ⟨⟨b0, b1, b2, b3, b4⟩, f0, f1, f2, f3, f4⟩ := c5 hq
    clear hf hq
    by_cases hlt : i < n
    · obtain ⟨z, hz⟩ : ∃ z, l[i]? = some z := ⟨_, List.getElem?_eq_getElem (by rw [← HN.out]; exact hlt)⟩
      obtain ⟨-, g', o', s', e, -, hg2, -, hkz, z0, z1, z2, z3, z4⟩ := (HKL.out.next hW).kid hz
      obtain ⟨pz, kz, rfl, -⟩ := hkz.slice
      obtain ⟨nz, hnz⟩ : ∃ n, n = z.ks.length := ⟨_, rfl⟩
      rw [← hnz] at z4
      clear hkz hnz
      obtain ⟨rfl, rfl⟩ : g = g' ∧ o = o' := by have := Addr.mk.inj (Option.some.inj e); exact ⟨this.1, this.2.1⟩
      have HST := Lib.hid (top_step hz _ HF.out)
      have hne : g ≠ w2.heap.size := by omega
      have hgs : g < w2.heap.size := hgl
      clear hz e hW
      by_cases hc : b.a.s < z.a.s
      · have HI : Hid (topF (b.a.c, b.a.s) z = (z.a.c, z.a.s)) := by unfold topF; exact if_pos hc
        have hcc : b.a.s < z.a.s := hc
        go_wp2_with fail
        go_quiet (fail)
        go_wp2_with fail
        refine ⟨⟨i + 1, by omega, by omega, by go_num, below_st5 (below_drewN HW.out _) (Nat.le_refl _) _ _ _ _ _, z, pz, nz, kz, blk_st5 (HQ.out.drewN _) _ _ _ _ _, ?_⟩, by simp [intOf]; omega⟩
        show _ = _
        rw [HST.out, HI.out]
      · have HI : Hid (topF (b.a.c, b.a.s) z = (b.a.c, b.a.s)) := by unfold topF; exact if_neg hc
        go_wp2_with fail
        go_quiet (fail)
        go_wp2_with fail
        refine ⟨⟨i + 1, by omega, by omega, by go_num, below_drewN HW.out _, b, pb, nb, cb, HQ.out.drewN _, ?_⟩, by simp [intOf]; omega⟩
        show _ = _
        rw [HST.out, HI.out]
    · have hin2 : i = n := by omega
      have hrr : r = b.a.c := by
        rw [HR.out]
        have := HF.out
        rw [hin2, HN.out, List.take_length] at this
        unfold seenI
        rw [this]
      subst hrr
      clear hin2
      go_wp2_with fail
      go_ret
      exact ⟨rfl, HB2.out.trans (HW.out.mono HB2.out.size)⟩
end Go.Proofs.Ytbbmfpdlkogkfaa.Co
end
section
namespace Go.Proofs.Ytbbmfpdlkogkfaa.Co
open Go.RowKit Go.Shelf Go.Maps
theorem fine_all {x : Con} (hf : fine x) : ∀ z ∈ all x, z.a.wide := fun z hz => by
  obtain ⟨u, hu, -⟩ := all_get x z hz
  exact (hf u z hu).1
set_option maxHeartbeats 8000000 in
set_option maxRecDepth 100000 in
theorem NextR_c (c dr : Int) (x : Con) (Z : Nat → Prop) (sv : Value) (w : World) (hK : KV w Z x.ks sv) (hZ : ∀ b, Z b → b < w.heap.size) (hd : (all x).length ≤ 1000000) (hf : fine x) :
    Calls Try.prog 49 #[conV x.a sv, .int .i64 c, .int .i64 dr] w fun e w' => e = .returned (.tuple #[.int .i64 (nextI x c dr).1, .int .i64 (nextI x c dr).2]) ∧ Below w.heap.size w w' := by
  obtain ⟨p, cap, rfl, -⟩ := hK.slice
  obtain ⟨m, hm⟩ : ∃ m, m = x.ks.length := ⟨_, rfl⟩
  rw [← hm] at hK ⊢
  obtain ⟨r, hr⟩ : ∃ r, r = nextI x c dr := ⟨_, rfl⟩
  rw [← hr]
  have HRR := Lib.hid hr
  have HA := Lib.hid (fun (W : World) (h : Below w.heap.size w W) => asked12_c Z x (.slice p m cap) c dr W (hK.next h) hd (fun b hb => Nat.lt_of_lt_of_le (hZ b hb) h.size))
  have HF := Lib.hid (fun (W : World) (h : Below w.heap.size w W) => FindRE_c Z x (.slice p m cap) c W (hK.next h) hd (fun b hb => Nat.lt_of_lt_of_le (hZ b hb) h.size))
  have hat := askW_zero (x := x) (c := c) (d := dr)
  have hb0 : Below w.heap.size w (w.alloc (.cells #[.int .i64 x.a.k, .int .i64 x.a.w, .int .i64 x.a.c, .int .i64 x.a.s, .slice p m cap] 24)) := (Below.refl w.heap.size w).alloc (Nat.le_refl _) _
  have hq1 : Blk (w.alloc (.cells #[.int .i64 x.a.k, .int .i64 x.a.w, .int .i64 x.a.c, .int .i64 x.a.s, .slice p m cap] 24)) w.heap.size 24 #[.int .i64 x.a.k, .int .i64 x.a.w, .int .i64 x.a.c, .int .i64 x.a.s, .slice p m cap] := Blk.new _ _ _
  have HB := Lib.hid hb0
  have HQ1 := Lib.hid hq1
  have HZ := Lib.hid hZ
  have hno := nextI_no (x := x) (c := c) (d := dr)
  have hyes := fun u => nextI_at (x := x) (c := c) (d := dr) (u := u)
  obtain ⟨q9, hq9⟩ : ∃ q, q = askW x c dr := ⟨_, rfl⟩
  rw [← hq9] at HA hat hno hyes
  by_cases h0 : q9 = 0
  rotate_left
  · have HR : Hid (r = (0, q9)) := by show _ = _; rw [HRR.out, hno h0]
    have hne : (q9 == 0) = false := by simpa using h0
    obtain ⟨⟨b0, b1, b2, b3, b4⟩, -⟩ := c5 hq1
    clear hm hr hK hZ hd hf hb0 hq1 hat hno hyes hq9 h0 HF
    show Calls Try.prog 49 #[.agg #[.int .i64 x.a.k, .int .i64 x.a.w, .int .i64 x.a.c, .int .i64 x.a.s, .slice p m cap], .int .i64 c, .int .i64 dr] w _
    go_enter Try.func49, Try.ntmps49
    go_wp2_with fail
    refine (HA.out _ HB.out).mono ?_
    rintro e w1 ⟨rfl, hb⟩
    have HB1 := Lib.hid (HB.out.trans (hb.mono HB.out.size))
    obtain ⟨⟨b0, b1, b2, b3, b4⟩, -⟩ := c5 (HQ1.out.next hb)
    clear hb
    go_wp2_with fail
    refine (HA.out _ HB1.out).mono ?_
    rintro e w2 ⟨rfl, hb⟩
    have HB2 := HB1.out.trans (hb.mono HB1.out.size)
    clear hb
    go_wp2_with fail
    go_ret2
    exact ⟨by rw [HR.out] <;> rfl, HB2⟩
  · subst h0
    obtain ⟨hd1, hd4, htr, hhb⟩ := hat rfl
    rcases findI_spec (c := c) htr with ⟨h9, _⟩ | ⟨_, u, hu, hfi⟩
    · rw [hhb] at h9; cases h9
    obtain ⟨y0, hgy, -, -, -, hun, -⟩ := hu.leaf htr
    have HR : Hid (r = nextN x u dr u.length) := by show _ = _; rw [HRR.out, hyes u rfl hfi]
    have HFI := Lib.hid hfi
    have HTR := Lib.hid htr
    have HGY := Lib.hid hgy
    have HFX := Lib.hid hf
    have HD := Lib.hid hd
    have HDR := Lib.hid (And.intro hd1 hd4)
    have HKX := Lib.hid (fun (W : World) (h : Below w.heap.size w W) => hK.next h)
    have hul : 0 < u.length := by cases u; exact absurd rfl hun; simp
    obtain ⟨⟨z0, z1, z2, z3, z4⟩, -⟩ := c5 hq1
    clear hm hr hK hZ hd hf hb0 hq1 hat hno hyes hq9 hu hfi htr hhb hgy hun hd1 hd4 HRR
    show Calls Try.prog 49 #[.agg #[.int .i64 x.a.k, .int .i64 x.a.w, .int .i64 x.a.c, .int .i64 x.a.s, .slice p m cap], .int .i64 c, .int .i64 dr] w _
    go_enter Try.func49, Try.ntmps49
    go_wp2_with fail
    refine (HA.out _ HB.out).mono ?_
    rintro e w1 ⟨rfl, hb⟩
    clear z0 z1 z2 z3 z4
    have HB1 := Lib.hid (HB.out.trans (hb.mono HB.out.size))
    have HQ3 := Lib.hid (HQ1.out.next hb)
    obtain ⟨⟨q0, q1, q2, q3, q4⟩, -⟩ := c5 HQ3.out
    clear hb
    go_wp2_with fail
    refine (HF.out w1 HB1.out).mono ?_
    rintro e w2 ⟨hb, ⟨hn, -⟩ | ⟨u2, vw, hfi2, rfl, hwi, -⟩⟩
    · rw [HFI.out] at hn; cases hn
    rw [HFI.out] at hfi2
    have hfi2 := Option.some.inj hfi2
    subst hfi2
    obtain ⟨pw, cw, rfl, hl6, hlc⟩ := hwi.slice
    have HB2 := Lib.hid (HB1.out.trans (hb.mono HB1.out.size))
    have HQ5 := Lib.hid (HQ3.out.next hb)
    clear q0 q1 q2 q3 q4
    obtain ⟨⟨q0, q1, q2, q3, q4⟩, -⟩ := c5 HQ5.out
    obtain ⟨n, hn⟩ : ∃ n, n = u.length := ⟨_, rfl⟩
    rw [← hn] at hwi hl6 hlc hul HR ⊢
    have HN := Lib.hid hn
    have HWI := Lib.hid hwi
    have hbx := HB2.out
    have hqx := HQ5.out
    have hul1 : (0 : Int) < (n : Int) := by omega
    clear hb hn hwi q0 q1 q2 q3 q4
    go_upto_region 5 with fail
    go_loopw [10] (fun z wr => ∃ d : Nat, d ≤ n ∧ z = .int .i64 ((d : Int) - 1) ∧ Below w.heap.size w wr ∧ Blk wr w.heap.size 24 #[.int .i64 x.a.k, .int .i64 x.a.w, .int .i64 x.a.c, .int .i64 x.a.s, .slice p m cap] ∧ WI wr u (.slice pw n cw) ∧ Asd (nextN x u dr n = nextN x u dr d)) (fun z _ => (intOf z + 1).toNat)
    case atStart => exact ⟨n, Nat.le_refl _, by go_num, hbx, hqx, HWI.out, rfl⟩
    case round =>
      clear hbx hqx
      obtain ⟨d, hd, rfl, hB, hq1, hwi, hA⟩ := hrel
      have HA9 := Lib.hid (show nextN x u dr n = nextN x u dr d from hA)
      have HB := Lib.hid hB
      have HQ1 := Lib.hid hq1
      have HWI := Lib.hid hwi
      clear hA hB hq1 hwi
      cases d with
      | zero =>
        have hm1 : ((0 : Nat) : Int) - 1 = -1 := by omega
        rw [hm1]
        have HR2 : Hid (r = (0, 120)) := by show _ = _; rw [HR.out, HA9.out]; rfl
        clear hm1
        go_wp2_with fail
        go_ret2
        exact ⟨by rw [HR2.out] <;> rfl, HB.out⟩
      | succ kd =>
        obtain ⟨pp, i, y9, hp, hi, hq, -, -⟩ := way_step9 HGY.out (m := kd) (by rw [← HN.out]; omega)
        have hno := nextN_no (d := dr) hp hi
        have hyes := fun (j : Nat) (y : Con) => nextN_yes (d := dr) (j := j) (y := y) hp hi
        have HZW : Hid (∀ b, Z b → b < wr.heap.size) := fun b hb => Nat.lt_of_lt_of_le (HZ.out b hb) HB.out.size
        have HWK := Lib.hid (HWI.out.take (k := kd) (by omega))
        have HAT := Lib.hid (fun (W : World) (h : Below wr.heap.size wr W) => At_c Z x pp (.slice p m cap) (u.take kd) (.slice pw kd cw) W (HKX.out W (HB.out.trans (h.mono HB.out.size))) (fun b hb => Nat.lt_of_lt_of_le (HZW.out b hb) h.size) (HWK.out.next h) hp)
        have HSS : Hid (∀ W, Below wr.heap.size wr W → W.cell? ⟨w.heap.size, 0, none⟩ = some (.int .i64 x.a.k) ∧ W.cell? ⟨w.heap.size, 1, none⟩ = some (.int .i64 x.a.w) ∧ W.cell? ⟨w.heap.size, 2, none⟩ = some (.int .i64 x.a.c) ∧ W.cell? ⟨w.heap.size, 3, none⟩ = some (.int .i64 x.a.s) ∧ W.cell? ⟨w.heap.size, 4, none⟩ = some (.slice p m cap)) := fun W h => by
          obtain ⟨⟨q0, q1, q2, q3, q4⟩, -⟩ := c5 (HQ1.out.next h)
          exact ⟨q0, q1, q2, q3, q4⟩
        obtain ⟨e9, hw1, hw2⟩ : (((kd + 1 : Nat) : Int) - 1 = (kd : Int)) ∧ (0 : Int) ≤ (kd : Int) ∧ kd ≤ cw := ⟨by omega, by omega, by omega⟩
        rw [e9]
        clear e9
        obtain ⟨np, hnp⟩ : ∃ np, np = pp.ks.length := ⟨_, rfl⟩
        rw [← hnp] at hno hyes
        obtain ⟨pa, hpa⟩ : ∃ pa, pa = pp.a := ⟨_, rfl⟩
        rw [← hpa] at hno hyes HAT
        have HNO := Lib.hid hno
        have HYES := Lib.hid hyes
        have HNP := Lib.hid hnp
        have HI := Lib.hid hi
        have HPP := Lib.hid hp
        have hil : i < np := by rw [hnp]; exact (List.getElem?_eq_some_iff.1 hq).1
        clear hno hyes hi hp hq hnp hpa
        go_upto_region 7 with fail
        go_cut [11] (fun s13 wx => ∃ g p3 c3, s13 = .pointer (some ⟨g, 0, none⟩) ∧ Blk wx g 24 #[.int .i64 pa.k, .int .i64 pa.w, .int .i64 pa.c, .int .i64 pa.s, .slice p3 np c3] ∧ KV wx Z pp.ks (.slice p3 np c3) ∧ wr.heap.size ≤ g ∧ Below wr.heap.size wr wx)
        case first =>
          refine wp_region_noPanic ?_
          refine wp_region_held_drew (S := fun wx => wx.cell? ⟨w.heap.size, 0, none⟩ = some (.int .i64 x.a.k) ∧ wx.cell? ⟨w.heap.size, 1, none⟩ = some (.int .i64 x.a.w) ∧ wx.cell? ⟨w.heap.size, 2, none⟩ = some (.int .i64 x.a.c) ∧ wx.cell? ⟨w.heap.size, 3, none⟩ = some (.int .i64 x.a.s) ∧ wx.cell? ⟨w.heap.size, 4, none⟩ = some (.slice p m cap)) (by kernel_rfl) (by exact HSS.out _ (Below.refl _ _).drew) (fun hHeld => ?_)
          refine wpAnyH_take (i := 0) (v := ?va0) rfl (by kernel_rfl) (by kernel_rfl) (by kernel_rfl) (fun _ _ _ h => h) (Or.inl ⟨by kernel_rfl, ?ya0⟩) (by assumption) ?ra0
          case ya0 => (intro wq hSw; (try dsimp only at hSw); go_simp; (try with_reducible rfl))
          (try simp only [Act.put, List.getElem_toArray, List.getElem_cons_zero, List.setIfInBounds_toArray, List.set_cons_zero, List.set_cons_succ])
          refine wpAnyH_take (i := 1) (v := ?va1) rfl (by kernel_rfl) (by kernel_rfl) (by kernel_rfl) (fun _ _ _ h => h) (Or.inl ⟨by kernel_rfl, ?ya1⟩) (by assumption) ?ra1
          case ya1 => (intro wq hSw; (try dsimp only at hSw); go_simp; (try with_reducible rfl))
          (try simp only [Act.put, List.getElem_toArray, List.getElem_cons_succ, List.getElem_cons_zero, List.setIfInBounds_toArray, List.set_cons_zero, List.set_cons_succ])
          refine wpAnyH_take (i := 2) (v := ?va2) rfl (by kernel_rfl) (by kernel_rfl) (by kernel_rfl) (fun _ _ _ h => h) (Or.inl ⟨by kernel_rfl, ?ya2⟩) (by assumption) ?ra2
          case ya2 => (intro wq hSw; (try dsimp only at hSw); go_simp; (try with_reducible rfl))
          (try simp only [Act.put, List.getElem_toArray, List.getElem_cons_succ, List.getElem_cons_zero, List.setIfInBounds_toArray, List.set_cons_zero, List.set_cons_succ])
          refine wpAnyH_take (i := 3) (v := ?va3) rfl (by kernel_rfl) (by kernel_rfl) (by kernel_rfl) (fun _ _ _ h => h) (Or.inl ⟨by kernel_rfl, ?ya3⟩) (by assumption) ?ra3
          case ya3 => (intro wq hSw; (try dsimp only at hSw); go_simp; (try with_reducible rfl))
          (try simp only [Act.put, List.getElem_toArray, List.getElem_cons_succ, List.getElem_cons_zero, List.setIfInBounds_toArray, List.set_cons_zero, List.set_cons_succ])
          obtain ⟨wd, hwd⟩ : ∃ wd, wd = wr.drew := ⟨_, rfl⟩
          have HBd := Lib.hid (show Below wr.heap.size wr wd from hwd ▸ (Below.refl _ _).drew)
          rw [← hwd]
          clear hwd
          refine wpAnyH_ready (rs := [4, 5]) (by kernel_rfl) (by simp) ?_
          refine AllReadyH.cons rfl (fun K hK => ?_) (AllReadyH.cons rfl (fun K hK => ?_) AllReadyH.nil)
          · go_simp
            refine (HAT.out wd HBd.out).mono ?_
            rintro e w5 ⟨hb, s3, rfl, hk⟩
            obtain ⟨p3, c3, rfl, -⟩ := hk.slice
            rw [← HNP.out] at hk ⊢
            have HB5 := Lib.hid (HBd.out.trans (hb.mono HBd.out.size))
            have HK5 := Lib.hid hk
            (try dsimp only)
            refine hK.out _ _ (by exact HSS.out _ HB5.out) (fun hHeld => ?_)
            clear hK K hb hk
            (try simp only [Act.put, List.getElem_toArray, List.getElem_cons_succ, List.getElem_cons_zero, List.setIfInBounds_toArray, List.set_cons_zero, List.set_cons_succ])
            refine wpAnyH_ready (rs := [5]) (by kernel_rfl) (by simp) ?_
            refine AllReadyH.cons rfl (fun K hK => ?_) AllReadyH.nil
            go_simp
            refine hK.out _ _ (by exact HSS.out _ (HB5.out.alloc HB5.out.size (.cells #[.int .i64 0, .int .i64 0, .int .i64 0, .int .i64 0, .slice none 0 0] 24))) (fun hHeld => ?_)
            clear hK K
            (try simp only [Act.put, List.getElem_toArray, List.getElem_cons_succ, List.getElem_cons_zero, List.setIfInBounds_toArray, List.set_cons_zero, List.set_cons_succ])
            obtain ⟨w6, hw6⟩ : ∃ wn, wn = w5.alloc (.cells #[.int .i64 0, .int .i64 0, .int .i64 0, .int .i64 0, .slice none 0 0] 24) := ⟨_, rfl⟩
            have HB6 := Lib.hid (show Below wr.heap.size wr w6 from hw6 ▸ HB5.out.alloc HB5.out.size _)
            have HQ6 := Lib.hid (show Blk w6 w5.heap.size 24 #[.int .i64 0, .int .i64 0, .int .i64 0, .int .i64 0, .slice none 0 0] from hw6 ▸ Blk.new _ _ _)
            have HL6 : Hid (wr.heap.size ≤ w5.heap.size) := HB5.out.size
            have HK6 := Lib.hid (KV.next HK5.out (hw6 ▸ (Below.refl w5.heap.size w5).alloc (Nat.le_refl _) _))
            have HZGa : Hid (∀ b, Z b → b ≠ w5.heap.size) := fun b hb => Nat.ne_of_lt (Nat.lt_of_lt_of_le (HZW.out b hb) HL6.out)
            rw [← hw6]
            clear hw6
            obtain ⟨⟨g0, g1, g2, g3, g4⟩, k0, k1, k2, k3, k4⟩ := c5 HQ6.out
            refine wpAnyH_ready (rs := [6]) (by kernel_rfl) (by simp) ?_
            refine AllReadyH.cons rfl (fun K hK => ?_) AllReadyH.nil
            go_simp
            have hbn := below_st5 HB6.out HL6.out (.int .i64 pa.k) (.int .i64 pa.w) (.int .i64 pa.c) (.int .i64 pa.s) (.slice p3 np c3)
            have hqn := blk_st5 HQ6.out (.int .i64 pa.k) (.int .i64 pa.w) (.int .i64 pa.c) (.int .i64 pa.s) (.slice p3 np c3)
            have hkn := KV.st5 (Z' := Z) HK6.out (fun b hb => HZGa.out b hb) (fun b hb => hb) (.int .i64 pa.k) (.int .i64 pa.w) (.int .i64 pa.c) (.int .i64 pa.s) (.slice p3 np c3)
            refine hK.out _ _ (by exact HSS.out _ hbn) (fun hHeld => ?_)
            clear hK K
            (try simp only [Act.put, List.getElem_toArray, List.getElem_cons_succ, List.getElem_cons_zero, List.setIfInBounds_toArray, List.set_cons_zero, List.set_cons_succ])
            refine wpAnyH_done (by kernel_rfl) ?_ _
            refine NoPanic.normal ?_
            clear g0 g1 g2 g3 g4 k0 k1 k2 k3 k4 hHeld
            go_wp2_with fail
            go_meet
            exact ⟨_, p3, c3, rfl, hqn, hkn, HL6.out, hbn⟩
          · go_simp
            refine hK.out _ _ (by exact HSS.out _ (HBd.out.alloc HBd.out.size (.cells #[.int .i64 0, .int .i64 0, .int .i64 0, .int .i64 0, .slice none 0 0] 24))) (fun hHeld => ?_)
            clear hK K
            (try simp only [Act.put, List.getElem_toArray, List.getElem_cons_succ, List.getElem_cons_zero, List.setIfInBounds_toArray, List.set_cons_zero, List.set_cons_succ])
            obtain ⟨w5, hw5⟩ : ∃ wn, wn = wd.alloc (.cells #[.int .i64 0, .int .i64 0, .int .i64 0, .int .i64 0, .slice none 0 0] 24) := ⟨_, rfl⟩
            have HB5 := Lib.hid (show Below wr.heap.size wr w5 from hw5 ▸ HBd.out.alloc HBd.out.size _)
            have HQ5 := Lib.hid (show Blk w5 wd.heap.size 24 #[.int .i64 0, .int .i64 0, .int .i64 0, .int .i64 0, .slice none 0 0] from hw5 ▸ Blk.new _ _ _)
            have HL5 : Hid (wr.heap.size ≤ wd.heap.size) := HBd.out.size
            have HZGb : Hid (∀ b, Z b → b ≠ wd.heap.size) := fun b hb => Nat.ne_of_lt (Nat.lt_of_lt_of_le (HZW.out b hb) HL5.out)
            rw [← hw5]
            clear hw5
            refine wpAnyH_ready (rs := [4]) (by kernel_rfl) (by simp) ?_
            refine AllReadyH.cons rfl (fun K hK => ?_) AllReadyH.nil
            go_simp
            refine (HAT.out w5 HB5.out).mono ?_
            rintro e w6 ⟨hb, s3, rfl, hk⟩
            obtain ⟨p3, c3, rfl, -⟩ := hk.slice
            rw [← HNP.out] at hk ⊢
            have HB6 := Lib.hid (HB5.out.trans (hb.mono HB5.out.size))
            have HK6 := Lib.hid hk
            have HQ6 := Lib.hid (HQ5.out.next hb)
            (try dsimp only)
            refine hK.out _ _ (by exact HSS.out _ HB6.out) (fun hHeld => ?_)
            clear hK K hb hk
            (try simp only [Act.put, List.getElem_toArray, List.getElem_cons_succ, List.getElem_cons_zero, List.setIfInBounds_toArray, List.set_cons_zero, List.set_cons_succ])
            obtain ⟨⟨g0, g1, g2, g3, g4⟩, k0, k1, k2, k3, k4⟩ := c5 HQ6.out
            refine wpAnyH_ready (rs := [6]) (by kernel_rfl) (by simp) ?_
            refine AllReadyH.cons rfl (fun K hK => ?_) AllReadyH.nil
            go_simp
            have hbn := below_st5 HB6.out HL5.out (.int .i64 pa.k) (.int .i64 pa.w) (.int .i64 pa.c) (.int .i64 pa.s) (.slice p3 np c3)
            have hqn := blk_st5 HQ6.out (.int .i64 pa.k) (.int .i64 pa.w) (.int .i64 pa.c) (.int .i64 pa.s) (.slice p3 np c3)
            have hkn := KV.st5 (Z' := Z) HK6.out (fun b hb => HZGb.out b hb) (fun b hb => hb) (.int .i64 pa.k) (.int .i64 pa.w) (.int .i64 pa.c) (.int .i64 pa.s) (.slice p3 np c3)
            refine hK.out _ _ (by exact HSS.out _ hbn) (fun hHeld => ?_)
            clear hK K
            (try simp only [Act.put, List.getElem_toArray, List.getElem_cons_succ, List.getElem_cons_zero, List.setIfInBounds_toArray, List.set_cons_zero, List.set_cons_succ])
            refine wpAnyH_done (by kernel_rfl) ?_ _
            refine NoPanic.normal ?_
            clear g0 g1 g2 g3 g4 k0 k1 k2 k3 k4 hHeld
            go_wp2_with fail
            go_meet
            exact ⟨_, p3, c3, rfl, hqn, hkn, HL5.out, hbn⟩
        case rest =>
          obtain ⟨g3, p3, c3, rfl, hq3, hk3, hg3, hbc⟩ := hcut
          have HB3 := Lib.hid (HB.out.trans (hbc.mono HB.out.size))
          have HX3 := Lib.hid (HQ1.out.next hbc)
          have HW3 := Lib.hid (HWI.out.next hbc)
          have HQ3 := Lib.hid hq3
          have HK3 := Lib.hid hk3
          have HZ3 : Hid (∀ b, Z b → b < wc.heap.size) := fun b hb => Nat.lt_of_lt_of_le (HZW.out b hb) hbc.size
          clear HSS HAT HWK hq3 hk3 hbc HZW
          obtain ⟨w3, hw3⟩ : ∃ w3, w3 = wc := ⟨_, rfl⟩
          subst hw3
          obtain ⟨bw, ow, rfl, hbw, hwc⟩ := HW3.out.at_ HI.out
          have hlp : np ≤ 1152921504606846976 := by
            obtain ⟨_, _, e, h9⟩ := HK3.out.slice
            obtain ⟨-, e2, -⟩ := Value.slice.inj e
            rw [e2]; exact h9
          have hkn : (kd : Int) < (n : Int) := by omega
          have HBY := Lib.hid (fun W => by_c dr W HDR.out.1 HDR.out.2)
          have HAL := Lib.hid (fun k W => along12_c k dr W HDR.out.1)
          obtain ⟨bi, hbi⟩ : ∃ b, b = byI dr := ⟨_, rfl⟩
          rw [← hbi] at HBY
          have hb1 : bi = -1 ∨ bi = 1 := by rw [hbi]; unfold byI; split; exact .inl rfl; exact .inr rfl
          have hwi9 : IntKind.i64.wrap ((i : Int) + bi) = (i : Int) + bi := IntWalk.i64_in _ (by omega)
          have hbs : besI pa.k np i dr = if alongB pa.k dr = true ∧ 0 ≤ (i : Int) + bi ∧ (i : Int) + bi < (np : Int) then some ((i : Int) + bi).toNat else none := by
            rw [hbi]
            unfold besI byI
            by_cases ha : alongB pa.k dr = true
            · rw [if_pos ha]
              by_cases hh : aheadB dr = true
              · rw [if_pos hh, if_pos hh]
                by_cases h0 : i = 0
                · rw [if_pos h0, if_neg (by omega)]
                · rw [if_neg h0, if_pos ⟨ha, by omega, by omega⟩]; congr 1; omega
              · rw [if_neg hh, if_neg hh]
                by_cases h0 : i + 1 < np
                · rw [if_pos h0, if_pos ⟨ha, by omega, by omega⟩]; congr 1
                · rw [if_neg h0, if_neg (by omega)]
            · rw [if_neg ha, if_neg (fun h => ha h.1)]
          have HBS := Lib.hid hbs
          obtain ⟨al, hal⟩ : ∃ a, a = alongB pa.k dr := ⟨_, rfl⟩
          have HAL2 := Lib.hid (fun W => HAL.out pa.k W)
          rw [← hal] at HAL2 HBS
          clear hbi hbs hal HAL
          go_upto_region 8 with fail
          go_cut [12] (fun s12 wx => s12 = .int .i64 ((i : Int) + bi) ∧ w3.drew = wx)
          case first =>
            refine wp_region_noPanic ?_
            refine wp_region_held_drew (S := fun wx => wx.cell? ⟨bw, ow + kd, none⟩ = some (.int .i64 (i : Int))) (by kernel_rfl) (by exact hwc) (fun hHeld => ?_)
            refine wpAnyH_take (i := 0) (v := ?v0) rfl (by kernel_rfl) (by kernel_rfl) (by kernel_rfl) (fun _ _ _ h => h) (Or.inl ⟨by kernel_rfl, ?y0⟩) (by assumption) ?r0
            case y0 => (intro wq hSw; (try dsimp only at hSw); go_simp; (try with_reducible rfl))
            (try simp only [Act.put, List.getElem_toArray, List.getElem_cons_zero, List.setIfInBounds_toArray, List.set_cons_zero, List.set_cons_succ])
            refine wpAnyH_take (i := 1) (v := ?v1) rfl (by kernel_rfl) (by kernel_rfl) (by kernel_rfl) (fun _ _ _ h => h) (Or.inl ⟨by kernel_rfl, ?y1⟩) (by assumption) ?r1
            case y1 => (intro wq hSw; (try dsimp only at hSw); go_simp; (try with_reducible rfl))
            (try simp only [Act.put, List.getElem_toArray, List.getElem_cons_succ, List.getElem_cons_zero, List.setIfInBounds_toArray, List.set_cons_zero, List.set_cons_succ])
            refine wpAnyH_take (i := 2) (v := ?v2) rfl (by kernel_rfl) (by kernel_rfl) (by kernel_rfl) (fun _ _ _ h => h) (Or.inl ⟨by kernel_rfl, ?y2⟩) (by assumption) ?r2
            case y2 => (intro wq hSw; (try dsimp only at hSw); go_simp; (try with_reducible rfl))
            (try simp only [Act.put, List.getElem_toArray, List.getElem_cons_succ, List.getElem_cons_zero, List.setIfInBounds_toArray, List.set_cons_zero, List.set_cons_succ])
            refine wpAnyH_take (i := 3) (v := ?v3) rfl (by kernel_rfl) (by kernel_rfl) (by kernel_rfl) (fun _ _ _ h => h) (Or.inl ⟨by kernel_rfl, ?y3⟩) (by assumption) ?r3
            case y3 => (intro wq hSw; (try dsimp only at hSw); go_simp; (try with_reducible rfl))
            (try simp only [Act.put, List.getElem_toArray, List.getElem_cons_succ, List.getElem_cons_zero, List.setIfInBounds_toArray, List.set_cons_zero, List.set_cons_succ])
            refine wpAnyH_take (i := 4) (v := ?v4) rfl (by kernel_rfl) (by kernel_rfl) (by kernel_rfl) (fun _ _ _ h => h) (Or.inl ⟨by kernel_rfl, ?y4⟩) (by assumption) ?r4
            case y4 => (intro wq hSw; (try dsimp only at hSw); go_simp; (try with_reducible rfl))
            (try simp only [Act.put, List.getElem_toArray, List.getElem_cons_succ, List.getElem_cons_zero, List.setIfInBounds_toArray, List.set_cons_zero, List.set_cons_succ])
            refine wpAnyH_ready (rs := [5]) (by kernel_rfl) (by simp) ?_
            refine AllReadyH.cons rfl (fun K hK => ?_) AllReadyH.nil
            go_simp
            refine (HBY.out w3.drew).mono ?_
            rintro e w4 ⟨rfl, rfl⟩
            (try dsimp only)
            refine hK.out _ _ (by exact hwc) (fun hHeld => ?_)
            clear hK K
            (try simp only [Act.put, List.getElem_toArray, List.getElem_cons_succ, List.getElem_cons_zero, List.setIfInBounds_toArray, List.set_cons_zero, List.set_cons_succ])
            refine wpAnyH_take (i := 6) (v := ?v6) rfl (by kernel_rfl) (by kernel_rfl) (by kernel_rfl) (fun _ _ _ h => h) (Or.inl ⟨by kernel_rfl, ?y6⟩) (by assumption) ?r6
            case y6 => (intro wq hSw; (try dsimp only at hSw); go_simp; (try with_reducible rfl))
            (try simp only [Act.put, List.getElem_toArray, List.getElem_cons_succ, List.getElem_cons_zero, List.setIfInBounds_toArray, List.set_cons_zero, List.set_cons_succ])
            refine wpAnyH_take (i := 7) (v := ?v7) rfl (by kernel_rfl) (by kernel_rfl) (by kernel_rfl) (fun _ _ _ h => h) (Or.inl ⟨by kernel_rfl, ?y7⟩) (by assumption) ?r7
            case y7 => (intro wq hSw; (try dsimp only at hSw); go_simp; (try with_reducible rfl))
            (try simp only [Act.put, List.getElem_toArray, List.getElem_cons_succ, List.getElem_cons_zero, List.setIfInBounds_toArray, List.set_cons_zero, List.set_cons_succ])
            refine wpAnyH_done (by kernel_rfl) ?_ _
            refine NoPanic.normal ?_
            go_wp2_with fail
            go_meet
            exact ⟨rfl, rfl⟩
          case rest =>
          obtain ⟨rfl, rfl⟩ := hcut
          have HB4 := Lib.hid HB3.out.drew
          have HX4 := Lib.hid HX3.out.drew
          have HW4 := Lib.hid (HW3.out.next (Below.refl _ _).drew)
          obtain ⟨⟨y0, y1, y2, y3, y4⟩, -⟩ := c5 HQ3.out.drew
          by_cases hj : al = true ∧ 0 ≤ (i : Int) + bi ∧ (i : Int) + bi < (np : Int)
          rotate_left
          · rw [if_neg hj] at HBS
            have HE := Lib.hid (HA9.out.trans (HNO.out HBS.out))
            have hjj : al = false ∨ (al = true ∧ ¬ 0 ≤ (i : Int) + bi) ∨ (al = true ∧ 0 ≤ (i : Int) + bi ∧ ¬ (i : Int) + bi < (np : Int)) := by
              cases al
              · exact .inl rfl
              · by_cases h1 : 0 ≤ (i : Int) + bi
                · exact .inr (.inr ⟨rfl, h1, fun h2 => hj ⟨rfl, h1, h2⟩⟩)
                · exact .inr (.inl ⟨rfl, h1⟩)
            clear hj hb1
            rcases hjj with rfl | ⟨rfl, h1⟩ | ⟨rfl, h1, h2⟩
            all_goals
              go_wp2_with (go_at_call 91; ((with_reducible refine (HAL2.out _).mono ?_); rintro e1 w1 ⟨rfl, rfl⟩))
              go_roundw
              case rel => exact ⟨kd, by omega, by go_num, HB4.out, HX4.out, HW4.out, HE.out⟩
              case measure => (try simp only [intOf]); omega
          · rw [if_pos hj] at HBS
            obtain ⟨rfl, h1, h2⟩ := hj
            obtain ⟨jn, hjn⟩ : ∃ j : Nat, (j : Int) = (i : Int) + bi := ⟨((i : Int) + bi).toNat, by omega⟩
            have hjt : ((i : Int) + bi).toNat = jn := by omega
            rw [hjt] at HBS
            rw [← hjn] at h1 h2 ⊢
            have hjl : jn < pp.ks.length := by rw [← HNP.out]; omega
            obtain ⟨y, hy⟩ : ∃ y, pp.ks[jn]? = some y := ⟨_, List.getElem?_eq_getElem hjl⟩
            have hgy2 : get x (u.take kd ++ [jn]) = some y := by
              rw [get_append _ HPP.out]; obtain ⟨a, ks⟩ := pp; simp only [get]; rw [show ks[jn]? = some y from hy]
            obtain ⟨s1, s2, s3, s4⟩ := sub_seen HTR.out hgy2 (by simp)
            have HE : Hid (r = (lastI y, 0)) := by show _ = _; rw [HR.out, HA9.out, HYES.out jn y HBS.out hy]
            rw [s3] at HE
            have hfy : ∀ z ∈ all y, z.a.wide := fine_all (fine_get HFX.out hgy2)
            obtain ⟨-, gy, oy, sy, rfl, -, -, -, hky, k0, k1, k2, k3, k4⟩ := HK3.out.kid hy
            obtain ⟨py, cy, rfl, -⟩ := hky.slice
            obtain ⟨ny, hny⟩ : ∃ n, n = y.ks.length := ⟨_, rfl⟩
            rw [← hny] at hky k4
            have HSN := Lib.hid (seen12_c Z y (.slice py ny cy) w3.drew hky.drew (by omega) HZ3.out hfy s1 s2)
            obtain ⟨lr, hlr⟩ : ∃ l, l = seenI (all y) := ⟨_, rfl⟩
            rw [← hlr] at HE HSN
            clear hb1 hwi9 hjn hjt hjl hy hgy2 s1 s2 s3 s4 hfy hky hny hlr HBS HNO HYES
            go_upto_region 10 with (go_at_call 91; ((with_reducible refine (HAL2.out _).mono ?_); rintro e1 w1 ⟨rfl, rfl⟩))
            go_wp2_with fail
            refine HSN.out.mono ?_
            rintro e w5 ⟨rfl, hb⟩
            have HB5 := HB4.out.trans (hb.mono HB4.out.size)
            clear hb HSN
            go_wp2_with fail
            go_ret2
            exact ⟨by rw [HE.out] <;> rfl, HB5⟩
end Go.Proofs.Ytbbmfpdlkogkfaa.Co
end
