/- The law's example. ConsRemoves, walked. What the calls that change a tree answer, in one form for the code's and the document's. ConsChanges, walked. Arguments that are slices of ints, opened; and the last step of a law's row, whatever its arguments are, where 'Below' is known of the world behind the call. An argument that is a container, opened. ConsChanges, with the row's bounds. The law ConsChanges holds for every input: the call returns true, and each argument reads behind it as it read before. No condition. -/
import Derived.Test.YtejbgnammlhcmaaKX
import Derived.Test.YtejbgnammlhcmaaCpZ
import Derived.Test.YtejbgnammlhcmaaKZ
import Derived.Test.YtejbgnammlhcmaaKY
import Derived.Test.YtejbgnammlhcmaaProg
import Derived.WalkKit
import Derived.ProofKit
import Derived.Below
import Derived.ChangeSame
import Derived.ChangeSlices
import Derived.Deep.Slices
import Derived.Deep.Fields
import Derived.SizedLaws
import Derived.Test.YtejbgnammlhcmaaRows
import Derived.Lib.SmallJoins
import Derived.Laws.Cover2
import Derived.ChangeMaps5
section
namespace Go.Proofs.Ytejbgnammlhcmaa.Co
open Go.RowKit Go.Shelf
theorem KV.pair {w : World} {g : Nat} {x y : Con} {s t : Value} (hb : Blk w g 24 #[.int .i64 x.a.k, .int .i64 x.a.w, .int .i64 x.a.c, .int .i64 x.a.s, s, .int .i64 y.a.k, .int .i64 y.a.w, .int .i64 y.a.c, .int .i64 y.a.s, t]) {Z : Nat → Prop} (hz : Z g) (hx : KV w Z x.ks s) (hwx : x.a.wide) (hy : KV w Z y.ks t) (hwy : y.a.wide) : KV w Z [x, y] (.slice (some ⟨g, 0, none⟩) 2 2) := by
  refine .mk [x, y] _ 2 (fun j => if j = 0 then s else t) (by simp) (by simp) (fun j z hz' => ?_) (fun j z hz' => ?_)
  · have hj := (List.getElem?_eq_some_iff.1 hz').1
    simp at hj
    obtain rfl | rfl : j = 0 ∨ j = 1 := by omega
    · obtain rfl := Option.some.inj hz'
      refine ⟨g, 0, rfl, hz, hb.lt, hwx, fun i u hu => ?_⟩
      have hi := (List.getElem?_eq_some_iff.1 hu).1
      simp [encC] at hi
      have := hb.at_ (i := i) (v := u) (by
        obtain rfl | rfl | rfl | rfl | rfl : i = 0 ∨ i = 1 ∨ i = 2 ∨ i = 3 ∨ i = 4 := by omega
        all_goals exact hu)
      simpa using this
    · obtain rfl := Option.some.inj hz'
      refine ⟨g, 0, rfl, hz, hb.lt, hwy, fun i u hu => ?_⟩
      have hi := (List.getElem?_eq_some_iff.1 hu).1
      simp [encC] at hi
      have := hb.at_ (i := 5 + i) (v := u) (by
        obtain rfl | rfl | rfl | rfl | rfl : i = 0 ∨ i = 1 ∨ i = 2 ∨ i = 3 ∨ i = 4 := by omega
        all_goals exact hu)
      simpa using this
  · have hj := (List.getElem?_eq_some_iff.1 hz').1
    simp at hj
    obtain rfl | rfl : j = 0 ∨ j = 1 := by omega
    · obtain rfl := Option.some.inj hz'
      exact hx
    · obtain rfl := Option.some.inj hz'
      exact hy
theorem i64c (n : Int) (h : -100000 ≤ n ∧ n ≤ 100000) : I64 n := by unfold I64; omega
theorem spl_wide (k : Int) (h : -100000 ≤ k ∧ k ≤ 100000) : (⟨k, 65536, 0, 0⟩ : D).wide := ⟨i64c k h, i64c 65536 (by decide), i64c 0 (by decide), i64c 0 (by decide)⟩
def T1 : Con := .mk ⟨1, 65536, 0, 0⟩ [leafT 1, leafT 2]
def T2 : Con := .mk ⟨1, 65536, 0, 0⟩ [leafT 1, .mk ⟨2, 65536, 0, 0⟩ [leafT 2]]
def T3 : Con := .mk ⟨1, 65536, 0, 0⟩ [leafT 1, .mk ⟨2, 65536, 0, 0⟩ [leafT 2, leafT 3]]
theorem leafT_fine {c : Int} (h : I64 c) : fine (leafT c) := fine_mk ⟨i64c 0 (by decide), i64c 65536 (by decide), h, i64c 0 (by decide)⟩ (by simp) (by simp)
theorem T1_fine : fine T1 := fine_mk (spl_wide _ (by decide)) (by simp) (by
  intro x hx
  simp only [List.mem_cons, List.not_mem_nil, or_false] at hx
  rcases hx with rfl | rfl
  all_goals exact leafT_fine (i64c _ (by decide)))
theorem T2_fine : fine T2 := fine_mk (spl_wide _ (by decide)) (by simp) (by
  intro x hx
  simp only [List.mem_cons, List.not_mem_nil, or_false] at hx
  rcases hx with rfl | rfl
  · exact leafT_fine (i64c _ (by decide))
  · exact fine_mk (spl_wide _ (by decide)) (by simp) (by
      intro x hx
      simp only [List.mem_cons, List.not_mem_nil, or_false] at hx
      subst hx
      exact leafT_fine (i64c _ (by decide))))
theorem T3_fine : fine T3 := fine_mk (spl_wide _ (by decide)) (by simp) (by
  intro x hx
  simp only [List.mem_cons, List.not_mem_nil, or_false] at hx
  rcases hx with rfl | rfl
  · exact leafT_fine (i64c _ (by decide))
  · exact fine_mk (spl_wide _ (by decide)) (by simp) (by
      intro x hx
      simp only [List.mem_cons, List.not_mem_nil, or_false] at hx
      rcases hx with rfl | rfl
      all_goals exact leafT_fine (i64c _ (by decide))))
theorem aw_wrap : wrapI T1 2 2 = (T2, 0) := by kernel_rfl
theorem aw_insert : insertI T2 2 3 0 = (T3, 0) := by kernel_rfl
theorem aw_remove : removeI T3 3 = (T1, 0) := by kernel_rfl
theorem aw_told {N : Nat} {r : Con × Int} {t : Con} {e : Ending} {w : World} (h : TellR N r e w) (hr : r = (t, 0)) (hf : fine t) : ∃ s, e = .returned (.tuple #[conV t.a s, .int .i64 0]) ∧ KV w (fun b => N ≤ b) t.ks s := by
  subst hr
  obtain ⟨y, s, h1, h2, h3⟩ := h.reads fun _ => hf
  rw [if_pos rfl] at h3
  subst h3
  exact ⟨s, h1, h2⟩
theorem aw_new (w : World) : Calls Try.prog 23 #[.int .i64 1] w fun e w' => e = .returned (.agg #[.int .i64 1, .int .i64 65536, .int .i64 0, .int .i64 0, .slice none 0 0]) ∧ Below w.heap.size w w' := new_c 1 w
theorem aw_leaf (c : Int) (w : World) : Calls Try.prog 55 #[.int .i64 c] w fun e w' => e = .returned (.agg #[.int .i64 0, .int .i64 65536, .int .i64 c, .int .i64 0, .slice none 0 0]) ∧ Below w.heap.size w w' := leaf_c c w
theorem aw_call {N : Nat} {r : Con × Int} {t : Con} {e : Ending} {w : World} (ha : t.a = ⟨1, 65536, 0, 0⟩) (hl : t.ks.length = 2) (h : TellR N r e w) (hr : r = (t, 0)) (hf : fine t) : ∃ p c, e = .returned (.tuple #[.agg #[.int .i64 1, .int .i64 65536, .int .i64 0, .int .i64 0, .slice p 2 c], .int .i64 0]) ∧ KV w (fun b => N ≤ b) t.ks (.slice p 2 c) := by
  obtain ⟨s, h1, h2⟩ := aw_told h hr hf
  obtain ⟨p, c, rfl, -⟩ := h2.slice
  rw [hl] at h1 h2
  rw [ha] at h1
  exact ⟨p, c, h1, h2⟩
theorem wrap_aw (s : Value) (w : World) (hK : KV w (fun b => b < w.heap.size) T1.ks s) : Calls Try.prog 37 #[.agg #[.int .i64 1, .int .i64 65536, .int .i64 0, .int .i64 0, s], .int .i64 2, .int .i64 2] w fun e w' => (∃ p c, e = .returned (.tuple #[.agg #[.int .i64 1, .int .i64 65536, .int .i64 0, .int .i64 0, .slice p 2 c], .int .i64 0]) ∧ KV w' (fun b => w.heap.size ≤ b) T2.ks (.slice p 2 c)) ∧ Below w.heap.size w w' :=
  (wrap_c T1 s 2 2 w hK (T1_fine [] T1 rfl).1 (by decide) (by decide)).mono fun e w' ⟨h1, h2⟩ => ⟨aw_call rfl rfl h1 aw_wrap T2_fine, h2⟩
theorem ins_aw (s : Value) (w : World) (hK : KV w (fun b => b < w.heap.size) T2.ks s) : Calls Try.prog 31 #[.agg #[.int .i64 1, .int .i64 65536, .int .i64 0, .int .i64 0, s], .int .i64 2, .int .i64 3, .int .i64 0] w fun e w' => (∃ p c, e = .returned (.tuple #[.agg #[.int .i64 1, .int .i64 65536, .int .i64 0, .int .i64 0, .slice p 2 c], .int .i64 0]) ∧ KV w' (fun b => w.heap.size ≤ b) T3.ks (.slice p 2 c)) ∧ Below w.heap.size w w' :=
  (Insert_c T2 s 2 3 0 w hK (T2_fine [] T2 rfl).1 (by decide) (by decide) (by decide +kernel)).mono fun e w' ⟨h1, h2⟩ => ⟨aw_call rfl rfl h1 aw_insert T3_fine, h2⟩
theorem rem_aw (s : Value) (w : World) (hK : KV w (fun b => b < w.heap.size) T3.ks s) : Calls Try.prog 33 #[.agg #[.int .i64 1, .int .i64 65536, .int .i64 0, .int .i64 0, s], .int .i64 3] w fun e w' => (∃ p c, e = .returned (.tuple #[.agg #[.int .i64 1, .int .i64 65536, .int .i64 0, .int .i64 0, .slice p 2 c], .int .i64 0]) ∧ KV w' (fun b => w.heap.size ≤ b) T1.ks (.slice p 2 c)) ∧ Below w.heap.size w w' :=
  (remove_c T3 s 3 w hK (T3_fine [] T3 rfl).1 (by decide) (by decide)).mono fun e w' ⟨h1, h2⟩ => ⟨aw_call rfl rfl h1 aw_remove T1_fine, h2⟩
theorem same_aw (t : Con) (ha : t.a = ⟨1, 65536, 0, 0⟩) (s u : Value) (w : World) {Z Z' : Nat → Prop} (h1 : KV w Z t.ks s) (h2 : KV w Z' t.ks u) : Calls Try.prog 21 #[.agg #[.int .i64 1, .int .i64 65536, .int .i64 0, .int .i64 0, s], .agg #[.int .i64 1, .int .i64 65536, .int .i64 0, .int .i64 0, u]] w fun e w' => e = .returned (.bool true) ∧ Below w.heap.size w w' := by
  have := same_c Z Z' t t s u w h1 h2
  rw [sameB_refl, ha] at this
  exact this
set_option maxHeartbeats 4000000 in
theorem awake_c (w : World) : Calls Try.prog 18 #[] w fun e w' => e = .returned (.bool true) ∧ Below w.heap.size w w' := by
  go_enter Try.func18, Try.ntmps18
  go_wp2_with fail
  refine (aw_new w).mono ?_
  rintro e w1 ⟨rfl, hb1⟩
  have q1 := Blk.new w1 24 #[.int .i64 1, .int .i64 65536, .int .i64 0, .int .i64 0, .slice none 0 0]
  go_wp2_with fail
  refine (aw_leaf 1 _).mono ?_
  rintro e w2 ⟨rfl, hb2⟩
  have q2 := q1.next hb2
  go_wp2_with fail
  refine (aw_leaf 2 _).mono ?_
  rintro e w3 ⟨rfl, hb3⟩
  have q3 := q2.next hb3
  obtain ⟨⟨b0, b1, b2, b3, b4⟩, ⟨f0, f1, f2, f3, f4⟩⟩ := c5 q3
  have hs3 : w1.heap.size < w3.heap.size := q3.lt
  have hs4 : w1.heap.size ≠ w3.heap.size := Nat.ne_of_lt hs3
  have hb13 : Below w.heap.size w w3 := by
    have h2 := ((hb1.alloc hb1.size (.cells #[.int .i64 1, .int .i64 65536, .int .i64 0, .int .i64 0, .slice none 0 0] 24)).trans (hb2.mono (by simp; exact Nat.le_succ_of_le hb1.size)))
    exact h2.trans (hb3.mono h2.size)
  have HB13 := Lib.hid hb13
  have HQ3 := Lib.hid q3
  have HS1 := Lib.hid hb1.size
  clear hb1 hb2 hb3 q1 q2 q3 hb13
  go_wp2_with fail
  obtain ⟨wA, hwA⟩ : ∃ wA, wA = (w3.setCell ⟨w1.heap.size, 4, none⟩ (.slice (some ⟨w3.heap.size, 0, none⟩) 2 2)).alloc (.cells #[.int .i64 0, .int .i64 65536, .int .i64 1, .int .i64 0, .slice none 0 0, .int .i64 0, .int .i64 65536, .int .i64 2, .int .i64 0, .slice none 0 0] 24) := ⟨_, rfl⟩
  rewrite [← hwA]
  have hbA : Below w.heap.size w wA := by rw [hwA]; exact (HB13.out.setCell HS1.out _).alloc (by simp; exact HB13.out.size) _
  have qA : Blk wA w1.heap.size 24 #[.int .i64 1, .int .i64 65536, .int .i64 0, .int .i64 0, .slice (some ⟨w3.heap.size, 0, none⟩) 2 2] := by rw [hwA]; exact (HQ3.out.set_ 4 _).alloc _
  have qB : Blk wA w3.heap.size 24 #[.int .i64 0, .int .i64 65536, .int .i64 1, .int .i64 0, .slice none 0 0, .int .i64 0, .int .i64 65536, .int .i64 2, .int .i64 0, .slice none 0 0] := by
    rw [hwA]; have := Blk.new (w3.setCell ⟨w1.heap.size, 4, none⟩ (.slice (some ⟨w3.heap.size, 0, none⟩) 2 2)) 24 #[.int .i64 0, .int .i64 65536, .int .i64 1, .int .i64 0, .slice none 0 0, .int .i64 0, .int .i64 65536, .int .i64 2, .int .i64 0, .slice none 0 0]; rwa [World.size_setCell] at this
  have hkA : KV wA (fun b => b < wA.heap.size) T1.ks (.slice (some ⟨w3.heap.size, 0, none⟩) 2 2) := KV.pair (x := leafT 1) (y := leafT 2) qB qB.lt (KV.nil _ _ _ _) (leafT_fine (i64c _ (by decide)) [] _ rfl).1 (KV.nil _ _ _ _) (leafT_fine (i64c _ (by decide)) [] _ rfl).1
  clear hwA HQ3 HB13 HS1 b0 b1 b2 b3 b4 f0 f1 f2 f3 f4 qB
  refine (wrap_aw _ wA hkA).mono ?_
  rintro e w4 ⟨⟨p4, k4, rfl, hk4⟩, hb4⟩
  have q4 := Blk.new w4 24 #[.int .i64 1, .int .i64 65536, .int .i64 0, .int .i64 0, .slice p4 2 k4]
  go_wp2_with fail
  have hb4' : Below w.heap.size w (w4.alloc (.cells #[.int .i64 1, .int .i64 65536, .int .i64 0, .int .i64 0, .slice p4 2 k4] 24)) := (hbA.trans (hb4.mono hbA.size)).alloc (Nat.le_trans hbA.size hb4.size) _
  have qA4 := (qA.next hb4).alloc (.cells #[.int .i64 1, .int .i64 65536, .int .i64 0, .int .i64 0, .slice p4 2 k4] 24)
  refine (ins_aw _ _ (hk4.alloc _).all).mono ?_
  rintro e w5 ⟨⟨p5, k5, rfl, hk5⟩, hb5⟩
  have hkA4 := (hkA.next hb4).alloc (.cells #[.int .i64 1, .int .i64 65536, .int .i64 0, .int .i64 0, .slice p4 2 k4] 24)
  have hkA5 := hkA4.next hb5
  have qA5 := qA4.next hb5
  have hb5' := hb4'.trans (hb5.mono hb4'.size)
  have q5 := Blk.new w5 24 #[.int .i64 1, .int .i64 65536, .int .i64 0, .int .i64 0, .slice p5 2 k5]
  clear hb4 hb5 hb4' qA qA4 q4 hk4 hbA hkA hkA4
  go_wp2_with fail
  have hb5a : Below w.heap.size w (w5.alloc (.cells #[.int .i64 1, .int .i64 65536, .int .i64 0, .int .i64 0, .slice p5 2 k5] 24)) := hb5'.alloc hb5'.size _
  have qA5' := qA5.alloc (.cells #[.int .i64 1, .int .i64 65536, .int .i64 0, .int .i64 0, .slice p5 2 k5] 24)
  have hkA5' := hkA5.alloc (.cells #[.int .i64 1, .int .i64 65536, .int .i64 0, .int .i64 0, .slice p5 2 k5] 24)
  have hk5' := hk5.alloc (.cells #[.int .i64 1, .int .i64 65536, .int .i64 0, .int .i64 0, .slice p5 2 k5] 24)
  refine (rem_aw _ _ (hk5.alloc _).all).mono ?_
  rintro e w6 ⟨⟨p6, k6, rfl, hk6⟩, hb6⟩
  have hb6' := hb5a.trans (hb6.mono hb5a.size)
  have qA6 := qA5'.next hb6
  have q56 := q5.next hb6
  have hkA6 := hkA5'.next hb6
  have hk56 := hk5'.next hb6
  have q6 := Blk.new w6 24 #[.int .i64 1, .int .i64 65536, .int .i64 0, .int .i64 0, .slice p6 2 k6]
  clear hb5' hb5a qA5 qA5' q5 hk5 hk5' hkA5 hkA5' hb6
  go_wp2_with fail
  have hb6a : Below w.heap.size w (w6.alloc (.cells #[.int .i64 1, .int .i64 65536, .int .i64 0, .int .i64 0, .slice p6 2 k6] 24)) := hb6'.alloc hb6'.size _
  have qA6' := qA6.alloc (.cells #[.int .i64 1, .int .i64 65536, .int .i64 0, .int .i64 0, .slice p6 2 k6] 24)
  have q56' := q56.alloc (.cells #[.int .i64 1, .int .i64 65536, .int .i64 0, .int .i64 0, .slice p6 2 k6] 24)
  have hkA6' := hkA6.alloc (.cells #[.int .i64 1, .int .i64 65536, .int .i64 0, .int .i64 0, .slice p6 2 k6] 24)
  have hk56' := hk56.alloc (.cells #[.int .i64 1, .int .i64 65536, .int .i64 0, .int .i64 0, .slice p6 2 k6] 24)
  have hk6' := hk6.alloc (.cells #[.int .i64 1, .int .i64 65536, .int .i64 0, .int .i64 0, .slice p6 2 k6] 24)
  clear qA6 q56 hkA6 hk56 hk6 hb6'
  refine (aw_leaf 1 _).mono ?_
  rintro e w7 ⟨rfl, hb7⟩
  go_wp2_with fail
  refine (aw_leaf 2 _).mono ?_
  rintro e w8 ⟨rfl, hb8⟩
  have hb68 := hb7.trans (hb8.mono hb7.size)
  clear hb7 hb8
  go_wp2_with fail
  refine (aw_leaf 3 _).mono ?_
  rintro e w9 ⟨rfl, hb9⟩
  have hb69 := hb68.trans (hb9.mono hb68.size)
  have hb9' := hb6a.trans (hb69.mono hb6a.size)
  have qA9 := qA6'.next hb69
  have q59 := q56'.next hb69
  have q69 := q6.next hb69
  have hkA9 := hkA6'.next hb69
  have hk59 := hk56'.next hb69
  have hk69 := hk6'.next hb69
  clear hb9 hb68 hb69 hb6a qA6' q56' q6 hkA6' hk56' hk6'
  obtain ⟨⟨a0, a1, a2, a3, a4⟩, -⟩ := c5 qA9
  obtain ⟨⟨b0, b1, b2, b3, b4⟩, -⟩ := c5 q59
  obtain ⟨⟨c0, c1, c2, c3, c4⟩, -⟩ := c5 q69
  have hw10 : w1.heap.size < w9.heap.size  := by have := qA9.lt; omega
  have hw10' : w1.heap.size ≠ w9.heap.size  := by have := qA9.lt; omega
  have hw11 : w1.heap.size < w9.heap.size + 1 := by have := qA9.lt; omega
  have hw11' : w1.heap.size ≠ w9.heap.size + 1 := by have := qA9.lt; omega
  have hw12 : w1.heap.size < w9.heap.size + 1 + 1 := by have := qA9.lt; omega
  have hw12' : w1.heap.size ≠ w9.heap.size + 1 + 1 := by have := qA9.lt; omega
  have hw50 : w5.heap.size < w9.heap.size  := by have := q59.lt; omega
  have hw50' : w5.heap.size ≠ w9.heap.size  := by have := q59.lt; omega
  have hw51 : w5.heap.size < w9.heap.size + 1 := by have := q59.lt; omega
  have hw51' : w5.heap.size ≠ w9.heap.size + 1 := by have := q59.lt; omega
  have hw52 : w5.heap.size < w9.heap.size + 1 + 1 := by have := q59.lt; omega
  have hw52' : w5.heap.size ≠ w9.heap.size + 1 + 1 := by have := q59.lt; omega
  have hw60 : w6.heap.size < w9.heap.size  := by have := q69.lt; omega
  have hw60' : w6.heap.size ≠ w9.heap.size  := by have := q69.lt; omega
  have hw61 : w6.heap.size < w9.heap.size + 1 := by have := q69.lt; omega
  have hw61' : w6.heap.size ≠ w9.heap.size + 1 := by have := q69.lt; omega
  have hw62 : w6.heap.size < w9.heap.size + 1 + 1 := by have := q69.lt; omega
  have hw62' : w6.heap.size ≠ w9.heap.size + 1 + 1 := by have := q69.lt; omega
  have HQA := Lib.hid qA9
  have HQ6 := Lib.hid q69
  have HB9 := Lib.hid hb9'
  clear qA9 q59 q69 hs3 hs4 hb9'
  have HK5 := Lib.hid hk59
  have HK6 := Lib.hid hk69
  have HKA := Lib.hid hkA9
  clear hk59 hk69 hkA9
  go_wp2_with fail
  obtain ⟨wZ, hwZ⟩ : ∃ W : World, W = ((w9.alloc (.cells #[.int .i64 0, .int .i64 65536, .int .i64 2, .int .i64 0, .slice none 0 0, .int .i64 0, .int .i64 65536, .int .i64 3, .int .i64 0, .slice none 0 0] 24)).alloc (.cells #[.int .i64 0, .int .i64 65536, .int .i64 1, .int .i64 0, .slice none 0 0, .int .i64 2, .int .i64 65536, .int .i64 0, .int .i64 0, .slice (some ⟨w9.heap.size, 0, none⟩) 2 2] 24)).alloc (.cells #[.int .i64 1, .int .i64 65536, .int .i64 0, .int .i64 0, .slice (some ⟨w9.heap.size + 1, 0, none⟩) 2 2] 24) := ⟨_, rfl⟩
  rewrite [← hwZ]
  have hz : Below w9.heap.size w9 wZ := by rw [hwZ]; exact (((Below.refl _ _).alloc (Nat.le_refl _) _).alloc (by simp) _).alloc (by simp; omega) _
  have z1 : Blk wZ w9.heap.size 24 #[.int .i64 0, .int .i64 65536, .int .i64 2, .int .i64 0, .slice none 0 0, .int .i64 0, .int .i64 65536, .int .i64 3, .int .i64 0, .slice none 0 0] := by rw [hwZ]; exact ((Blk.new w9 24 _).alloc _).alloc _
  have z2 : Blk wZ (w9.heap.size + 1) 24 #[.int .i64 0, .int .i64 65536, .int .i64 1, .int .i64 0, .slice none 0 0, .int .i64 2, .int .i64 65536, .int .i64 0, .int .i64 0, .slice (some ⟨w9.heap.size, 0, none⟩) 2 2] := by
    rw [hwZ]; have := (Blk.new (w9.alloc (.cells #[.int .i64 0, .int .i64 65536, .int .i64 2, .int .i64 0, .slice none 0 0, .int .i64 0, .int .i64 65536, .int .i64 3, .int .i64 0, .slice none 0 0] 24)) 24 #[.int .i64 0, .int .i64 65536, .int .i64 1, .int .i64 0, .slice none 0 0, .int .i64 2, .int .i64 65536, .int .i64 0, .int .i64 0, .slice (some ⟨w9.heap.size, 0, none⟩) 2 2]).alloc (.cells #[.int .i64 1, .int .i64 65536, .int .i64 0, .int .i64 0, .slice (some ⟨w9.heap.size + 1, 0, none⟩) 2 2] 24); rwa [World.size_alloc] at this
  have hk1 : KV wZ (fun _ => True) [leafT 2, leafT 3] (.slice (some ⟨w9.heap.size, 0, none⟩) 2 2) := KV.pair (x := leafT 2) (y := leafT 3) z1 trivial (KV.nil _ _ _ _) (leafT_fine (i64c _ (by decide)) [] _ rfl).1 (KV.nil _ _ _ _) (leafT_fine (i64c _ (by decide)) [] _ rfl).1
  have hk2 : KV wZ (fun _ => True) T3.ks (.slice (some ⟨w9.heap.size + 1, 0, none⟩) 2 2) := KV.pair (x := leafT 1) (y := .mk ⟨2, 65536, 0, 0⟩ [leafT 2, leafT 3]) z2 trivial (KV.nil _ _ _ _) (leafT_fine (i64c _ (by decide)) [] _ rfl).1 hk1 (spl_wide _ (by decide))
  have hz' := HB9.out.trans (hz.mono HB9.out.size)
  have qAZ := HQA.out.next hz
  have q6Z := HQ6.out.next hz
  have hk6Z := HK6.out.next hz
  have hkAZ := HKA.out.next hz
  refine (same_aw T3 rfl _ _ wZ (HK5.out.next hz) hk2).mono ?_
  rintro e w10 ⟨rfl, hb10⟩
  have hbX := Lib.hid (hz'.trans (hb10.mono hz'.size))
  have hkX := Lib.hid (hkAZ.next hb10)
  have hkY := Lib.hid (hk6Z.next hb10)
  obtain ⟨⟨x0, x1, x2, x3, x4⟩, -⟩ := c5 (qAZ.next hb10)
  obtain ⟨⟨y0, y1, y2, y3, y4⟩, -⟩ := c5 (q6Z.next hb10)
  clear hb10 hkAZ hk6Z qAZ q6Z hz' hk1 hk2 z1 z2 hz hwZ HQA HQ6 HK6 HKA HK5 HB9
  go_wp2_with fail
  refine (same_aw T1 rfl _ _ w10 hkY.out hkX.out).mono ?_
  rintro e w11 ⟨rfl, hb11⟩
  have hbW := hbX.out.trans (hb11.mono hbX.out.size)
  clear hb11
  go_wp2_with fail
  go_ret
  exact ⟨rfl, hbW⟩
end Go.Proofs.Ytejbgnammlhcmaa.Co
end
section
namespace Go.Proofs.Ytejbgnammlhcmaa.Co
open Go.RowKit Go.Shelf
/-- Both tell the same container. -/
theorem told_same {r q : Con × Int} {y z : Con} (h : r = q) (hy : y = if r.2 = 0 then r.1 else zeroT) (hz : z = if q.2 = 0 then q.1 else zeroT) : sameB y z = true := by
  subst h; rw [hy, hz]; exact sameB_refl _
theorem same_t {Z Z' : Nat → Prop} {y z : Con} {s u : Value} {w : World} (h : sameB y z = true) (h1 : KV w Z y.ks s) (h2 : KV w Z' z.ks u) : Calls Try.prog 21 #[conV y.a s, conV z.a u] w fun e w' => e = .returned (.bool true) ∧ Below w.heap.size w w' := by
  have := same_c Z Z' y z s u w h1 h2
  rwa [h] at this
theorem remove_fine {x : Con} {c : Int} (hf : fine x) (h : (removeD x c).2 = 0) : fine (removeD x c).1 := by
  rw [removeD_asked] at h ⊢
  by_cases h0 : askedI x c = 0
  · rw [if_pos h0]
    obtain ⟨a, ks⟩ := x
    obtain ⟨h1, h2, h3⟩ := fine_kids hf
    exact fine_mk h1 (Nat.le_trans (lessL_len c ks) h2) (lessL_fine h3)
  · rw [if_neg h0] at h; exact absurd h h0
set_option maxHeartbeats 4000000 in
theorem removes_c (x : Con) (sv : Value) (c : Int) (w : World) (hK : KV w (fun b => b < w.heap.size) x.ks sv) (hw : x.a.wide) :
    Calls Try.prog 6 #[conV x.a sv, .int .i64 c] w fun e w' => e = .returned (.bool true) ∧ Below w.heap.size w w' := by
  obtain ⟨p, cap, rfl, -⟩ := hK.slice
  obtain ⟨n, hn⟩ : ∃ n, n = x.ks.length := ⟨_, rfl⟩
  rw [← hn] at hK ⊢
  have hb0 := (Below.refl w.heap.size w).alloc (Nat.le_refl _) (.cells #[.int .i64 x.a.k, .int .i64 x.a.w, .int .i64 x.a.c, .int .i64 x.a.s, .slice p n cap] 24)
  have hq0 := Blk.new w 24 #[.int .i64 x.a.k, .int .i64 x.a.w, .int .i64 x.a.c, .int .i64 x.a.s, .slice p n cap]
  have HF := Lib.hid (few_c (fun b => b < w.heap.size) x (.slice p n cap) _ (hK.next hb0))
  have HB := Lib.hid hb0
  have HQ := Lib.hid hq0
  have HK := Lib.hid hK
  obtain ⟨dn, hdn⟩ : ∃ d, d = decide (nodesC x 0 ≤ 500) := ⟨_, rfl⟩
  rw [← hdn] at HF
  have HD := Lib.hid hdn
  have HW := Lib.hid hw
  clear hn hK hb0 hq0 hdn hw
  show Calls Try.prog 6 #[.agg #[.int .i64 x.a.k, .int .i64 x.a.w, .int .i64 x.a.c, .int .i64 x.a.s, .slice p n cap], .int .i64 c] w _
  go_enter Try.func6, Try.ntmps6
  go_wp2_with fail
  refine HF.out.mono ?_
  rintro e w1 ⟨rfl, hb⟩
  have hb1 := HB.out.trans (hb.mono HB.out.size)
  have HB1 := Lib.hid hb1
  have q1 := HQ.out.next hb
  have HQ1 := Lib.hid q1
  obtain ⟨⟨b0, b1, b2, b3, b4⟩, -⟩ := c5 q1
  clear hb hb1 HF HB q1
  cases dn
  · go_wp2_with fail
    refine (awake_c w1).mono ?_
    rintro e w2 ⟨rfl, hb⟩
    have HB2 := HB1.out.trans (hb.mono HB1.out.size)
    clear hb
    go_wp2_with fail
    go_ret
    exact ⟨rfl, HB2⟩
  · have hs := Small.of HK.out HW.out (of_decide_eq_true HD.out.symm)
    have HR := Lib.hid (remove_c x (.slice p n cap) c w1 (HK.out.next HB1.out).all HW.out hs.ht hs.wd)
    have HS := Lib.hid hs
    clear hs HD
    go_wp2_with fail
    refine HR.out.mono ?_
    rintro e w2 ⟨ht, hb⟩
    rw [show removeI x c = removeD x c from removeD_eq x c] at ht
    obtain ⟨y, s, rfl, hky, hy⟩ := ht.reads (fun h => remove_fine HS.out.f h)
    obtain ⟨py, ky, rfl, -⟩ := hky.slice
    obtain ⟨ny, hny⟩ : ∃ n, n = y.ks.length := ⟨_, rfl⟩
    rw [← hny] at hky ⊢
    obtain ⟨r, hr⟩ : ∃ r, r = removeD x c := ⟨_, rfl⟩
    rw [← hr] at hy ⊢
    obtain ⟨er, her⟩ : ∃ e, e = r.2 := ⟨_, rfl⟩
    rw [← her]
    have hb2 := HB1.out.trans (hb.mono HB1.out.size)
    have q2 := HQ1.out.next hb
    have HB2 := Lib.hid hb2
    have HQ2 := Lib.hid q2
    have HKY := Lib.hid hky
    have HY := Lib.hid hy
    have HRR := Lib.hid hr
    have HER := Lib.hid her
    clear hb hb2 HB1 HQ1 b0 b1 b2 b3 b4 hky hny hy hr her ht HR
    obtain ⟨⟨b0, b1, b2, b3, b4⟩, -⟩ := c5 q2
    have hs1 : w.heap.size < w2.heap.size := q2.lt
    have hs2 : w.heap.size ≠ w2.heap.size := Nat.ne_of_lt hs1
    clear q2
    go_wp2_with fail
    have hbN := HB2.out.alloc HB2.out.size (.cells #[.int .i64 y.a.k, .int .i64 y.a.w, .int .i64 y.a.c, .int .i64 y.a.s, .slice py ny ky] 24)
    have HKN := Lib.hid (HKY.out.alloc (.cells #[.int .i64 y.a.k, .int .i64 y.a.w, .int .i64 y.a.c, .int .i64 y.a.s, .slice py ny ky] 24))
    have HBN := Lib.hid hbN
    have HQN := Lib.hid (Blk.new w2 24 #[.int .i64 y.a.k, .int .i64 y.a.w, .int .i64 y.a.c, .int .i64 y.a.s, .slice py ny ky])
    refine (RemoveR_c c x (fun b => b < w.heap.size) (.slice p n cap) _ (HK.out.next hbN) (fun b h => Nat.lt_of_lt_of_le h hbN.size) HS.out.al HS.out.f).mono ?_
    rintro e w3 ⟨hb, z, s, rfl, hkz, hz⟩
    obtain ⟨pz, kz, rfl, -⟩ := hkz.slice
    obtain ⟨nz, hnz⟩ : ∃ n, n = z.ks.length := ⟨_, rfl⟩
    rw [← hnz] at hkz ⊢
    rw [← HRR.out] at hz ⊢
    rw [← HER.out]
    have hb3 := HBN.out.trans (hb.mono HBN.out.size)
    have HB3 := Lib.hid hb3
    have HKY3 := Lib.hid (HKN.out.next hb)
    have HKZ := Lib.hid hkz
    have HSM := Lib.hid (told_same (y := y) (z := z) rfl HY.out hz)
    obtain ⟨⟨b0, b1, b2, b3, b4⟩, -⟩ := c5 (HQN.out.next hb)
    have hs1 : w2.heap.size < w3.heap.size := (HQN.out.next hb).lt
    have hs2 : w2.heap.size ≠ w3.heap.size := Nat.ne_of_lt hs1
    clear hb hb3 hkz hnz hz HKN HQN HBN hbN HB2 HKY HY HRR HER
    go_wp2_with fail
    have hbN := HB3.out.alloc HB3.out.size (.cells #[.int .i64 z.a.k, .int .i64 z.a.w, .int .i64 z.a.c, .int .i64 z.a.s, .slice pz nz kz] 24)
    have HBN := Lib.hid hbN
    refine (same_t HSM.out (HKY3.out.alloc _) (HKZ.out.alloc _)).mono ?_
    rintro e w4 ⟨rfl, hb⟩
    have hb4 := HBN.out.trans (hb.mono HBN.out.size)
    have HB4 := Lib.hid hb4
    clear hb hb4 hbN HBN
    go_wp2_with fail
    refine (awake_c w4).mono ?_
    rintro e w5 ⟨rfl, hb⟩
    have hb5 := HB4.out.trans (hb.mono HB4.out.size)
    clear hb HB4
    go_wp2_with fail
    go_ret
    exact ⟨rfl, hb5⟩
end Go.Proofs.Ytejbgnammlhcmaa.Co
end
section
namespace Go.Proofs.Ytejbgnammlhcmaa.Co
open Go.RowKit Go.Shelf
theorem zeroT_fine : fine zeroT := fine_mk ⟨⟨by decide, by decide⟩, ⟨by decide, by decide⟩, ⟨by decide, by decide⟩, ⟨by decide, by decide⟩⟩ (by simp) (by simp)
theorem chg_fine {x : Con} {c : Int} {F : Con → List Nat → Con × Int} (h : ∀ u, fine (F x u).1) : fine (chgI x c F).1 := by
  unfold chgI
  split
  · exact zeroT_fine
  · split
    · exact h _
    · exact zeroT_fine
theorem turnF_fine {x : Con} {k : Int} {u : List Nat} (hf : fine x) (hk : I64 k) : fine (turnF k x u).1 := by
  unfold turnF
  split
  · rename_i p hp
    obtain ⟨⟨_, f1, f2, f3⟩, f4⟩ := hf _ p hp
    have := fine_get hf hp
    obtain ⟨a, ks⟩ := p
    exact fine_put hf (fine_mk ⟨hk, f1, f2, f3⟩ f4 (fine_kids this).2.2)
  · exact hf
theorem touchF_fine {x : Con} {k : Int} {u : List Nat} (hf : fine x) (hk : I64 k) : fine (touchF k x u).1 := by
  unfold touchF
  split
  · rename_i p hp
    obtain ⟨⟨f0, f1, f2, f3⟩, f4⟩ := hf _ p hp
    have := fine_get hf hp
    obtain ⟨a, ks⟩ := p
    exact fine_put hf (fine_mk ⟨f0, f1, f2, hk⟩ f4 (fine_kids this).2.2)
  · exact hf
theorem wrapF_fine {x : Con} {k : Int} {u : List Nat} (hf : fine x) (hk : I64 k) : fine (wrapF k x u).1 := by
  unfold wrapF
  split
  · rename_i p y hp hy
    obtain ⟨⟨_, f1, f2, f3⟩, f4⟩ := hf _ p hp
    obtain ⟨⟨g0, g1, g2, g3⟩, g4⟩ := hf _ y hy
    have h1 := fine_get hf hp
    have h2 := fine_get hf hy
    have h0 : I64 0 := ⟨by decide, by decide⟩
    split
    · obtain ⟨a, ks⟩ := p
      exact fine_put hf (fine_mk ⟨hk, f1, f2, f3⟩ f4 (fine_kids h1).2.2)
    · split
      · exact hf
      · obtain ⟨a, ks⟩ := y
        refine fine_put hf (fine_mk ⟨hk, g1, h0, h0⟩ (by simp) ?_)
        intro t ht
        rw [List.mem_singleton] at ht
        subst ht
        exact fine_mk ⟨g0, (show I64 65536 from ⟨by decide, by decide⟩), g2, g3⟩ g4 (fine_kids h2).2.2
  · exact hf
theorem wrap_fine {x : Con} {c k : Int} (hf : fine x) (hk : I64 k) : fine (wrapI x c k).1 := by
  unfold wrapI; split; exact chg_fine fun u => wrapF_fine hf hk; exact zeroT_fine
theorem turn_fine {x : Con} {c k : Int} (hf : fine x) (hk : I64 k) : fine (turnI x c k).1 := by
  unfold turnI; split; exact chg_fine fun u => turnF_fine hf hk; exact zeroT_fine
theorem touch_fine {x : Con} {c k : Int} (hf : fine x) (hk : I64 k) : fine (touchI x c k).1 := by
  unfold touchI; split; exact zeroT_fine; exact chg_fine fun u => touchF_fine hf hk
/-- What a call answers: an error's number, and a container. -/
def AnsR (B : Nat) (r : Con × Int) (W : World) (e : Ending) (w' : World) : Prop :=
  ∃ (y : Con) (p : Option Addr) (n k : Nat), e = .returned (.tuple #[.agg #[.int .i64 y.a.k, .int .i64 y.a.w, .int .i64 y.a.c, .int .i64 y.a.s, .slice p n k], .int .i64 r.2]) ∧ KV w' (fun b => b < B ∨ W.heap.size ≤ b) y.ks (.slice p n k) ∧ (y = if r.2 = 0 then r.1 else zeroT) ∧ Below W.heap.size W w'
theorem TellR.ans {B : Nat} {r : Con × Int} {W w' : World} {e : Ending} (h : TellR W.heap.size r e w') (hb : Below W.heap.size W w') (hf : fine r.1) : AnsR B r W e w' := by
  obtain ⟨y, s, h1, h2, h3⟩ := h.reads (fun _ => hf)
  obtain ⟨p, k, rfl, -⟩ := h2.slice
  exact ⟨y, p, _, k, h1, h2.weak (fun b h => .inr h), h3, hb⟩
theorem DocR.ans {B : Nat} {r : Con × Int} {W w' : World} {e : Ending} (h : DocR (fun b => b < B) r W e w') : AnsR B r W e w' := by
  obtain ⟨h0, y, s, h1, h2, h3⟩ := h
  obtain ⟨p, k, rfl, -⟩ := h2.slice
  exact ⟨y, p, _, k, h1, h2, h3, h0⟩
theorem swap_fine' {x : Con} {a b : Int} (hf : fine x) : fine (swapI x a b).1 := by
  unfold swapI
  split
  · exact zeroT_fine
  · split
    · exact zeroT_fine
    · split
      · rename_i v w _ _
        show fine (swapF v w x)
        have h0 : I64 0 := ⟨by decide, by decide⟩
        unfold swapF
        split
        · rename_i p q hp hq
          obtain ⟨⟨_, f1, f2, f3⟩, _⟩ := hf v p hp
          obtain ⟨⟨_, f4, f5, f6⟩, _⟩ := hf w q hq
          exact fine_put (fine_put hf (fine_mk ⟨h0, f1, f5, f6⟩ (by simp) (by simp))) (fine_mk ⟨h0, f4, f2, f3⟩ (by simp) (by simp))
        · exact hf
      · exact zeroT_fine
section
variable {x : Con} {p : Option Addr} {n cap : Nat} {w W : World}
theorem swap_ans (a b : Int) (hK : KV w (fun b => b < w.heap.size) x.ks (.slice p n cap)) (hs : Small x) (h : Below w.heap.size w W) : Calls Try.prog 35 #[.agg #[.int .i64 x.a.k, .int .i64 x.a.w, .int .i64 x.a.c, .int .i64 x.a.s, .slice p n cap], .int .i64 a, .int .i64 b] W (AnsR w.heap.size (swapI x a b) W) :=
  (Swap_c x (.slice p n cap) a b W (hK.next h).all hs.wide hs.ht hs.wd).mono fun _ _ h2 => h2.1.ans h2.2 (swap_fine' hs.f)
theorem swap_ansR (a b : Int) (hK : KV w (fun b => b < w.heap.size) x.ks (.slice p n cap)) (hs : Small x) (h : Below w.heap.size w W) : Calls Try.prog 36 #[.agg #[.int .i64 x.a.k, .int .i64 x.a.w, .int .i64 x.a.c, .int .i64 x.a.s, .slice p n cap], .int .i64 a, .int .i64 b] W (AnsR w.heap.size (swapI x a b) W) :=
  (SwapR_c a b x (fun b => b < w.heap.size) (.slice p n cap) W (hK.next h) (fun _ hb => Nat.lt_of_lt_of_le hb h.size) hs.al hs.f).mono fun _ _ h2 => h2.ans
theorem wrap_ans (a b : Int) (hb : I64 b) (hK : KV w (fun b => b < w.heap.size) x.ks (.slice p n cap)) (hs : Small x) (h : Below w.heap.size w W) : Calls Try.prog 37 #[.agg #[.int .i64 x.a.k, .int .i64 x.a.w, .int .i64 x.a.c, .int .i64 x.a.s, .slice p n cap], .int .i64 a, .int .i64 b] W (AnsR w.heap.size (wrapI x a b) W) :=
  (wrap_c x (.slice p n cap) a b W (hK.next h).all hs.wide hs.ht hs.wd).mono fun _ _ h2 => h2.1.ans h2.2 (wrap_fine hs.f hb)
theorem wrap_ansR (a b : Int) (_hb : I64 b) (hK : KV w (fun b => b < w.heap.size) x.ks (.slice p n cap)) (hs : Small x) (h : Below w.heap.size w W) : Calls Try.prog 38 #[.agg #[.int .i64 x.a.k, .int .i64 x.a.w, .int .i64 x.a.c, .int .i64 x.a.s, .slice p n cap], .int .i64 a, .int .i64 b] W (AnsR w.heap.size (wrapI x a b) W) :=
  (WrapR_c a b x (fun b => b < w.heap.size) (.slice p n cap) W (hK.next h) (fun _ hb => Nat.lt_of_lt_of_le hb h.size) hs.al hs.f).mono fun _ _ h2 => h2.ans
theorem turn_ans (a b : Int) (hb : I64 b) (hK : KV w (fun b => b < w.heap.size) x.ks (.slice p n cap)) (hs : Small x) (h : Below w.heap.size w W) : Calls Try.prog 39 #[.agg #[.int .i64 x.a.k, .int .i64 x.a.w, .int .i64 x.a.c, .int .i64 x.a.s, .slice p n cap], .int .i64 a, .int .i64 b] W (AnsR w.heap.size (turnI x a b) W) :=
  (turn_c x (.slice p n cap) a b W (hK.next h).all hs.wide hs.ht hs.wd).mono fun _ _ h2 => h2.1.ans h2.2 (turn_fine hs.f hb)
theorem turn_ansR (a b : Int) (_hb : I64 b) (hK : KV w (fun b => b < w.heap.size) x.ks (.slice p n cap)) (hs : Small x) (h : Below w.heap.size w W) : Calls Try.prog 40 #[.agg #[.int .i64 x.a.k, .int .i64 x.a.w, .int .i64 x.a.c, .int .i64 x.a.s, .slice p n cap], .int .i64 a, .int .i64 b] W (AnsR w.heap.size (turnI x a b) W) :=
  (TurnR_c a b x (fun b => b < w.heap.size) (.slice p n cap) W (hK.next h) (fun _ hb => Nat.lt_of_lt_of_le hb h.size) hs.al hs.f).mono fun _ _ h2 => h2.ans
theorem touch_ans (a b : Int) (hb : I64 b) (hK : KV w (fun b => b < w.heap.size) x.ks (.slice p n cap)) (hs : Small x) (h : Below w.heap.size w W) : Calls Try.prog 41 #[.agg #[.int .i64 x.a.k, .int .i64 x.a.w, .int .i64 x.a.c, .int .i64 x.a.s, .slice p n cap], .int .i64 a, .int .i64 b] W (AnsR w.heap.size (touchI x a b) W) :=
  (touch_c x (.slice p n cap) a b W (hK.next h).all hs.wide hs.ht hs.wd).mono fun _ _ h2 => h2.1.ans h2.2 (touch_fine hs.f hb)
theorem touch_ansR (a b : Int) (hb : I64 b) (hK : KV w (fun b => b < w.heap.size) x.ks (.slice p n cap)) (hs : Small x) (h : Below w.heap.size w W) : Calls Try.prog 42 #[.agg #[.int .i64 x.a.k, .int .i64 x.a.w, .int .i64 x.a.c, .int .i64 x.a.s, .slice p n cap], .int .i64 a, .int .i64 b] W (AnsR w.heap.size (touchI x a b) W) :=
  (TouchR_c a b x (fun b => b < w.heap.size) (.slice p n cap) W (hK.next h) (fun _ hb => Nat.lt_of_lt_of_le hb h.size) hs.al hs.f hb).mono fun _ _ h2 => h2.ans
end
end Go.Proofs.Ytejbgnammlhcmaa.Co
end
section
namespace Go.Proofs.Ytejbgnammlhcmaa.Co
open Go.RowKit Go.Shelf
theorem same_k {Z Z' : Nat → Prop} {y z : Con} {p q : Option Addr} {n n' c d : Nat} {w : World} (h : sameB y z = true) (h1 : KV w Z y.ks (.slice p n c)) (h2 : KV w Z' z.ks (.slice q n' d)) : Calls Try.prog 21 #[.agg #[.int .i64 y.a.k, .int .i64 y.a.w, .int .i64 y.a.c, .int .i64 y.a.s, .slice p n c], .agg #[.int .i64 z.a.k, .int .i64 z.a.w, .int .i64 z.a.c, .int .i64 z.a.s, .slice q n' d]] w fun e w' => e = .returned (.bool true) ∧ Below w.heap.size w w' := same_t h h1 h2
theorem hkA9 {w w' : World} {Z : Nat → Prop} {ks : List Con} {v : Value} (h : KV w Z ks v) (hb : Below w.heap.size w w') : KV w' Z ks v := h.next hb
set_option maxHeartbeats 4000000 in
set_option maxRecDepth 100000 in
theorem changes_c (x : Con) (sv : Value) (a b k : Int) (w : World) (hb : I64 b) (hk : I64 k) (hK : KV w (fun b => b < w.heap.size) x.ks sv) (hw : x.a.wide) :
    Calls Try.prog 7 #[conV x.a sv, .int .i64 a, .int .i64 b, .int .i64 k] w fun e w' => e = .returned (.bool true) ∧ Below w.heap.size w w' := by
  obtain ⟨p, cap, rfl, -⟩ := hK.slice
  obtain ⟨n, hn⟩ : ∃ n, n = x.ks.length := ⟨_, rfl⟩
  rw [← hn] at hK ⊢
  have hb0 := (Below.refl w.heap.size w).alloc (Nat.le_refl _) (.cells #[.int .i64 x.a.k, .int .i64 x.a.w, .int .i64 x.a.c, .int .i64 x.a.s, .slice p n cap] 24)
  have hq0 := Blk.new w 24 #[.int .i64 x.a.k, .int .i64 x.a.w, .int .i64 x.a.c, .int .i64 x.a.s, .slice p n cap]
  have HF := Lib.hid (few_c (fun b => b < w.heap.size) x (.slice p n cap) _ (hK.next hb0))
  have HB := Lib.hid hb0
  have HQ := Lib.hid hq0
  have HK := Lib.hid hK
  obtain ⟨dn, hdn⟩ : ∃ d, d = decide (nodesC x 0 ≤ 500) := ⟨_, rfl⟩
  rw [← hdn] at HF
  have HD := Lib.hid hdn
  have HW := Lib.hid hw
  have HIB := Lib.hid hb
  have HIK := Lib.hid hk
  clear hn hK hb0 hq0 hdn hw hb hk
  show Calls Try.prog 7 #[.agg #[.int .i64 x.a.k, .int .i64 x.a.w, .int .i64 x.a.c, .int .i64 x.a.s, .slice p n cap], .int .i64 a, .int .i64 b, .int .i64 k] w _
  go_enter Try.func7, Try.ntmps7
  go_wp2_with fail
  refine HF.out.mono ?_
  rintro e w1 ⟨rfl, hb⟩
  have hb1 := HB.out.trans (hb.mono HB.out.size)
  have HB1 := Lib.hid hb1
  have q1 := HQ.out.next hb
  have HQ1 := Lib.hid q1
  obtain ⟨⟨b0, b1, b2, b3, b4⟩, -⟩ := c5 q1
  clear hb hb1 HF HB q1
  cases dn
  · go_wp2_with fail
    refine (awake_c w1).mono ?_
    rintro e w2 ⟨rfl, hb⟩
    have HB2 := HB1.out.trans (hb.mono HB1.out.size)
    clear hb
    go_wp2_with fail
    go_ret
    exact ⟨rfl, HB2⟩
  · have hs := Small.of HK.out HW.out (of_decide_eq_true HD.out.symm)
    have HS := Lib.hid hs
    clear hs HD
    have HC := Lib.hid (swap_ans a b HK.out HS.out HB1.out)
    go_wp2_with fail
    refine HC.out.mono ?_
    rintro e wc0 ⟨y, py, ny, ky, rfl, hky, hy, hb⟩
    obtain ⟨r, hr⟩ : ∃ r, r = swapI x a b := ⟨_, rfl⟩
    rw [← hr] at hy ⊢
    obtain ⟨er, her⟩ : ∃ e, e = r.2 := ⟨_, rfl⟩
    rw [← her]
    have HR := Lib.hid hr
    have HER := Lib.hid her
    have HY := Lib.hid hy
    have HB2 := Lib.hid (HB1.out.trans (hb.mono HB1.out.size))
    have HQ2 := Lib.hid (HQ1.out.next hb)
    have HKY := Lib.hid hky
    clear hb hky hy hr her HC b0 b1 b2 b3 b4
    obtain ⟨⟨b0, b1, b2, b3, b4⟩, -⟩ := c5 HQ2.out
    have hs1 : w.heap.size < wc0.heap.size := HQ2.out.lt
    have hs2 : w.heap.size ≠ wc0.heap.size := Nat.ne_of_lt hs1
    have HD : Hid (∀ W, Below w.heap.size w W → Calls Try.prog 36 #[.agg #[.int .i64 x.a.k, .int .i64 x.a.w, .int .i64 x.a.c, .int .i64 x.a.s, .slice p n cap], .int .i64 a, .int .i64 b] W (AnsR w.heap.size (swapI x a b) W)) := fun W h => swap_ansR a b HK.out HS.out h
    go_upto_region 4 with fail
    have hbA := HB2.out.alloc HB2.out.size (.cells #[.int .i64 y.a.k, .int .i64 y.a.w, .int .i64 y.a.c, .int .i64 y.a.s, .slice py ny ky] 24)
    have hqA := Blk.new wc0 24 #[.int .i64 y.a.k, .int .i64 y.a.w, .int .i64 y.a.c, .int .i64 y.a.s, .slice py ny ky]
    have hqx := HQ2.out.alloc (.cells #[.int .i64 y.a.k, .int .i64 y.a.w, .int .i64 y.a.c, .int .i64 y.a.s, .slice py ny ky] 24)
    have hkA := HKY.out.alloc (.cells #[.int .i64 y.a.k, .int .i64 y.a.w, .int .i64 y.a.c, .int .i64 y.a.s, .slice py ny ky] 24)
    obtain ⟨v1, hv1⟩ : ∃ v1, v1 = wc0.alloc (.cells #[.int .i64 y.a.k, .int .i64 y.a.w, .int .i64 y.a.c, .int .i64 y.a.s, .slice py ny ky] 24) := ⟨_, rfl⟩
    obtain ⟨gA, hgA⟩ : ∃ g, g = wc0.heap.size := ⟨_, rfl⟩
    rw [← hv1] at hbA hqA hqx hkA ⊢
    rw [← hgA] at hqA hs1 ⊢
    have HGA := Lib.hid hqA
    have HLA : Hid (w.heap.size < gA) := hs1
    have HBA := Lib.hid hbA
    have HQA := Lib.hid hqx
    have HKA := Lib.hid hkA
    clear hv1 hgA hbA hqA hqx hkA b0 b1 b2 b3 b4 hs1 hs2 HKY HB2 HQ2
    obtain ⟨⟨b0, b1, b2, b3, b4⟩, -⟩ := c5 HQA.out
    go_wp2_with fail
    refine (HD.out _ HBA.out).mono ?_
    rintro e wd0 ⟨z, pz, nz, kz, rfl, hkz, hz, hb⟩
    rw [← HR.out] at hz ⊢
    rw [← HER.out]
    have HSM := Lib.hid (told_same (y := y) (z := z) rfl HY.out hz)
    have HB3 := Lib.hid (HBA.out.trans (hb.mono HBA.out.size))
    have HQ3 := Lib.hid (HQA.out.next hb)
    have HGA3 := Lib.hid (HGA.out.next hb)
    have HKY3 := Lib.hid (hkA9 HKA.out hb)
    have HKZ := Lib.hid hkz
    clear hb hkz hz HD HY HR HER HKA HGA HBA HQA b0 b1 b2 b3 b4
    obtain ⟨⟨b0, b1, b2, b3, b4⟩, -⟩ := c5 HQ3.out
    obtain ⟨⟨y0, y1, y2, y3, y4⟩, -⟩ := c5 HGA3.out
    have hs1 : w.heap.size < wd0.heap.size := HQ3.out.lt
    have hs2 : gA < wd0.heap.size := HGA3.out.lt
    have hs3 : gA ≠ wd0.heap.size := Nat.ne_of_lt hs2
    go_upto_region 5 with fail
    have hbA := HB3.out.alloc HB3.out.size (.cells #[.int .i64 z.a.k, .int .i64 z.a.w, .int .i64 z.a.c, .int .i64 z.a.s, .slice pz nz kz] 24)
    have hqB := Blk.new wd0 24 #[.int .i64 z.a.k, .int .i64 z.a.w, .int .i64 z.a.c, .int .i64 z.a.s, .slice pz nz kz]
    have hqx := HQ3.out.alloc (.cells #[.int .i64 z.a.k, .int .i64 z.a.w, .int .i64 z.a.c, .int .i64 z.a.s, .slice pz nz kz] 24)
    have hqA := HGA3.out.alloc (.cells #[.int .i64 z.a.k, .int .i64 z.a.w, .int .i64 z.a.c, .int .i64 z.a.s, .slice pz nz kz] 24)
    have hkA := HKY3.out.alloc (.cells #[.int .i64 z.a.k, .int .i64 z.a.w, .int .i64 z.a.c, .int .i64 z.a.s, .slice pz nz kz] 24)
    have hkB := HKZ.out.alloc (.cells #[.int .i64 z.a.k, .int .i64 z.a.w, .int .i64 z.a.c, .int .i64 z.a.s, .slice pz nz kz] 24)
    obtain ⟨v2, hv2⟩ : ∃ v2, v2 = wd0.alloc (.cells #[.int .i64 z.a.k, .int .i64 z.a.w, .int .i64 z.a.c, .int .i64 z.a.s, .slice pz nz kz] 24) := ⟨_, rfl⟩
    obtain ⟨gB, hgB⟩ : ∃ g, g = wd0.heap.size := ⟨_, rfl⟩
    rw [← hv2] at hbA hqA hqB hqx hkA hkB ⊢
    rw [← hgB] at hqB hs1 hs3 ⊢
    have HGA4 := Lib.hid hqA
    have HGB4 := Lib.hid hqB
    have HLB : Hid (w.heap.size < gB) := hs1
    have HNE : Hid (gA ≠ gB) := hs3
    have HB4 := Lib.hid hbA
    have HQ4 := Lib.hid hqx
    have HKY4 := Lib.hid hkA
    have HKZ4 := Lib.hid hkB
    clear hv2 hgB hbA hqA hqB hqx hkA hkB b0 b1 b2 b3 b4 y0 y1 y2 y3 y4 hs1 hs2 hs3 HGA3 HB3 HQ3 HKY3 HKZ
    obtain ⟨⟨b0, b1, b2, b3, b4⟩, -⟩ := c5 HQ4.out
    obtain ⟨⟨y0, y1, y2, y3, y4⟩, -⟩ := c5 HGA4.out
    obtain ⟨⟨z0, z1, z2, z3, z4⟩, -⟩ := c5 HGB4.out
    go_wp2_with fail
    refine (same_k HSM.out HKY4.out HKZ4.out).mono ?_
    rintro e ws0 ⟨rfl, hb⟩
    have HBp0 := Lib.hid (HB4.out.trans (hb.mono HB4.out.size))
    have HQp0 := Lib.hid (HQ4.out.next hb)
    have HGAp0 := Lib.hid (HGA4.out.next hb)
    have HGBp0 := Lib.hid (HGB4.out.next hb)
    clear hb HSM HKY4 HKZ4 HB4 HQ4 HGA4 HGB4 b0 b1 b2 b3 b4 y0 y1 y2 y3 y4 z0 z1 z2 z3 z4
    obtain ⟨⟨b0, b1, b2, b3, b4⟩, -⟩ := c5 HQp0.out
    have HC := Lib.hid (wrap_ans a k HIK.out HK.out HS.out HBp0.out)
    go_wp2_with fail
    refine HC.out.mono ?_
    rintro e wc1 ⟨y, py, ny, ky, rfl, hky, hy, hb⟩
    obtain ⟨r, hr⟩ : ∃ r, r = wrapI x a k := ⟨_, rfl⟩
    rw [← hr] at hy ⊢
    obtain ⟨er, her⟩ : ∃ e, e = r.2 := ⟨_, rfl⟩
    rw [← her]
    have HR := Lib.hid hr
    have HER := Lib.hid her
    have HY := Lib.hid hy
    have HB2 := Lib.hid (HBp0.out.trans (hb.mono HBp0.out.size))
    have HQ2 := Lib.hid (HQp0.out.next hb)
    have HGA2 := Lib.hid (HGAp0.out.next hb)
    have HGB2 := Lib.hid (HGBp0.out.next hb)
    have HKY := Lib.hid hky
    have HLW : Hid (gA < ws0.heap.size) := HGAp0.out.lt
    have HLV : Hid (gB < ws0.heap.size) := HGBp0.out.lt
    clear hb hky hy hr her HC b0 b1 b2 b3 b4
    obtain ⟨⟨b0, b1, b2, b3, b4⟩, -⟩ := c5 HQ2.out
    obtain ⟨⟨y0, y1, y2, y3, y4⟩, y5, y6, y7, y8, y9⟩ := c5 HGA2.out
    have HD : Hid (∀ W, Below w.heap.size w W → Calls Try.prog 38 #[.agg #[.int .i64 x.a.k, .int .i64 x.a.w, .int .i64 x.a.c, .int .i64 x.a.s, .slice p n cap], .int .i64 a, .int .i64 k] W (AnsR w.heap.size (wrapI x a k) W)) := fun W h => wrap_ansR a k HIK.out HK.out HS.out h
    go_upto_region 8 with fail
    obtain ⟨hbA, hqA, hne⟩ := st5_next HB2.out (Nat.le_of_lt HLA.out) HGA2.out (.int .i64 y.a.k) (.int .i64 y.a.w) (.int .i64 y.a.c) (.int .i64 y.a.s) (.slice py ny ky)
    have hqx := hne _ _ _ (Nat.ne_of_lt HLA.out) HQ2.out
    have hqB := hne _ _ _ (fun e => HNE.out e.symm) HGB2.out
    have hkA := KV.st5 (g := gA) (Z' := fun b => b < w.heap.size ∨ ws0.heap.size ≤ b) HKY.out (fun b hb => by have h1 := HLA.out; have h2 := HLW.out; omega) (fun b hb => hb) (.int .i64 y.a.k) (.int .i64 y.a.w) (.int .i64 y.a.c) (.int .i64 y.a.s) (.slice py ny ky)
    obtain ⟨v1, hv1⟩ : ∃ v1, v1 = st5 wc1 gA (.int .i64 y.a.k) (.int .i64 y.a.w) (.int .i64 y.a.c) (.int .i64 y.a.s) (.slice py ny ky) := ⟨_, rfl⟩
    rw [← hv1] at hbA hqA hqx hqB hkA
    unfold st5 at hv1
    rewrite [← hv1]
    have HGA9 := Lib.hid hqA
    have HGB9 := Lib.hid hqB
    have HBA := Lib.hid hbA
    have HQA := Lib.hid hqx
    have HKA := Lib.hid hkA
    clear hv1 hbA hqA hqB hqx hkA hne b0 b1 b2 b3 b4 y0 y1 y2 y3 y4 y5 y6 y7 y8 y9 HKY HB2 HQ2 HGA2 HGB2
    obtain ⟨⟨b0, b1, b2, b3, b4⟩, -⟩ := c5 HQA.out
    go_wp2_with fail
    refine (HD.out _ HBA.out).mono ?_
    rintro e wd1 ⟨z, pz, nz, kz, rfl, hkz, hz, hb⟩
    rw [← HR.out] at hz ⊢
    rw [← HER.out]
    have HSM := Lib.hid (told_same (y := y) (z := z) rfl HY.out hz)
    have HB3 := Lib.hid (HBA.out.trans (hb.mono HBA.out.size))
    have HQ3 := Lib.hid (HQA.out.next hb)
    have HGA3 := Lib.hid (HGA9.out.next hb)
    have HGB3 := Lib.hid (HGB9.out.next hb)
    have HKY3 := Lib.hid (hkA9 HKA.out hb)
    have HKZ := Lib.hid hkz
    have HLV1 : Hid (gB < v1.heap.size) := HGB9.out.lt
    clear hb hkz hz HD HY HR HER HKA HGA9 HGB9 HBA HQA b0 b1 b2 b3 b4
    obtain ⟨⟨b0, b1, b2, b3, b4⟩, -⟩ := c5 HQ3.out
    obtain ⟨⟨y0, y1, y2, y3, y4⟩, y5, y6, y7, y8, y9⟩ := c5 HGB3.out
    go_upto_region 9 with fail
    obtain ⟨hbA, hqB, hne⟩ := st5_next HB3.out (Nat.le_of_lt HLB.out) HGB3.out (.int .i64 z.a.k) (.int .i64 z.a.w) (.int .i64 z.a.c) (.int .i64 z.a.s) (.slice pz nz kz)
    have hqx := hne _ _ _ (Nat.ne_of_lt HLB.out) HQ3.out
    have hqA := hne _ _ _ HNE.out HGA3.out
    have hkA := KV.st5 (g := gB) (Z' := fun b => b < w.heap.size ∨ ws0.heap.size ≤ b) HKY3.out (fun b hb => by have h1 := HLB.out; have h2 := HLV.out; omega) (fun b hb => hb) (.int .i64 z.a.k) (.int .i64 z.a.w) (.int .i64 z.a.c) (.int .i64 z.a.s) (.slice pz nz kz)
    have hkB := KV.st5 (g := gB) (Z' := fun b => b < w.heap.size ∨ v1.heap.size ≤ b) HKZ.out (fun b hb => by have h1 := HLB.out; have h2 := HLV1.out; omega) (fun b hb => hb) (.int .i64 z.a.k) (.int .i64 z.a.w) (.int .i64 z.a.c) (.int .i64 z.a.s) (.slice pz nz kz)
    obtain ⟨v2, hv2⟩ : ∃ v2, v2 = st5 wd1 gB (.int .i64 z.a.k) (.int .i64 z.a.w) (.int .i64 z.a.c) (.int .i64 z.a.s) (.slice pz nz kz) := ⟨_, rfl⟩
    rw [← hv2] at hbA hqA hqB hqx hkA hkB
    unfold st5 at hv2
    rewrite [← hv2]
    have HGA4 := Lib.hid hqA
    have HGB4 := Lib.hid hqB
    have HB4 := Lib.hid hbA
    have HQ4 := Lib.hid hqx
    have HKY4 := Lib.hid hkA
    have HKZ4 := Lib.hid hkB
    clear hv2 hbA hqA hqB hqx hkA hkB hne b0 b1 b2 b3 b4 y0 y1 y2 y3 y4 y5 y6 y7 y8 y9 HGA3 HGB3 HB3 HQ3 HKY3 HKZ HGAp0 HGBp0
    obtain ⟨⟨b0, b1, b2, b3, b4⟩, -⟩ := c5 HQ4.out
    obtain ⟨⟨y0, y1, y2, y3, y4⟩, -⟩ := c5 HGA4.out
    obtain ⟨⟨z0, z1, z2, z3, z4⟩, -⟩ := c5 HGB4.out
    go_wp2_with fail
    refine (same_k HSM.out HKY4.out HKZ4.out).mono ?_
    rintro e ws1 ⟨rfl, hb⟩
    have HBp1 := Lib.hid (HB4.out.trans (hb.mono HB4.out.size))
    have HQp1 := Lib.hid (HQ4.out.next hb)
    have HGAp1 := Lib.hid (HGA4.out.next hb)
    have HGBp1 := Lib.hid (HGB4.out.next hb)
    clear hb HSM HKY4 HKZ4 HB4 HQ4 HGA4 HGB4 b0 b1 b2 b3 b4 y0 y1 y2 y3 y4 z0 z1 z2 z3 z4
    obtain ⟨⟨b0, b1, b2, b3, b4⟩, -⟩ := c5 HQp1.out
    have HC := Lib.hid (turn_ans a k HIK.out HK.out HS.out HBp1.out)
    go_wp2_with fail
    refine HC.out.mono ?_
    rintro e wc2 ⟨y, py, ny, ky, rfl, hky, hy, hb⟩
    obtain ⟨r, hr⟩ : ∃ r, r = turnI x a k := ⟨_, rfl⟩
    rw [← hr] at hy ⊢
    obtain ⟨er, her⟩ : ∃ e, e = r.2 := ⟨_, rfl⟩
    rw [← her]
    have HR := Lib.hid hr
    have HER := Lib.hid her
    have HY := Lib.hid hy
    have HB2 := Lib.hid (HBp1.out.trans (hb.mono HBp1.out.size))
    have HQ2 := Lib.hid (HQp1.out.next hb)
    have HGA2 := Lib.hid (HGAp1.out.next hb)
    have HGB2 := Lib.hid (HGBp1.out.next hb)
    have HKY := Lib.hid hky
    have HLW : Hid (gA < ws1.heap.size) := HGAp1.out.lt
    have HLV : Hid (gB < ws1.heap.size) := HGBp1.out.lt
    clear hb hky hy hr her HC b0 b1 b2 b3 b4
    obtain ⟨⟨b0, b1, b2, b3, b4⟩, -⟩ := c5 HQ2.out
    obtain ⟨⟨y0, y1, y2, y3, y4⟩, y5, y6, y7, y8, y9⟩ := c5 HGA2.out
    have HD : Hid (∀ W, Below w.heap.size w W → Calls Try.prog 40 #[.agg #[.int .i64 x.a.k, .int .i64 x.a.w, .int .i64 x.a.c, .int .i64 x.a.s, .slice p n cap], .int .i64 a, .int .i64 k] W (AnsR w.heap.size (turnI x a k) W)) := fun W h => turn_ansR a k HIK.out HK.out HS.out h
    go_upto_region 12 with fail
    obtain ⟨hbA, hqA, hne⟩ := st5_next HB2.out (Nat.le_of_lt HLA.out) HGA2.out (.int .i64 y.a.k) (.int .i64 y.a.w) (.int .i64 y.a.c) (.int .i64 y.a.s) (.slice py ny ky)
    have hqx := hne _ _ _ (Nat.ne_of_lt HLA.out) HQ2.out
    have hqB := hne _ _ _ (fun e => HNE.out e.symm) HGB2.out
    have hkA := KV.st5 (g := gA) (Z' := fun b => b < w.heap.size ∨ ws1.heap.size ≤ b) HKY.out (fun b hb => by have h1 := HLA.out; have h2 := HLW.out; omega) (fun b hb => hb) (.int .i64 y.a.k) (.int .i64 y.a.w) (.int .i64 y.a.c) (.int .i64 y.a.s) (.slice py ny ky)
    obtain ⟨v1, hv1⟩ : ∃ v1, v1 = st5 wc2 gA (.int .i64 y.a.k) (.int .i64 y.a.w) (.int .i64 y.a.c) (.int .i64 y.a.s) (.slice py ny ky) := ⟨_, rfl⟩
    rw [← hv1] at hbA hqA hqx hqB hkA
    unfold st5 at hv1
    rewrite [← hv1]
    have HGA9 := Lib.hid hqA
    have HGB9 := Lib.hid hqB
    have HBA := Lib.hid hbA
    have HQA := Lib.hid hqx
    have HKA := Lib.hid hkA
    clear hv1 hbA hqA hqB hqx hkA hne b0 b1 b2 b3 b4 y0 y1 y2 y3 y4 y5 y6 y7 y8 y9 HKY HB2 HQ2 HGA2 HGB2
    obtain ⟨⟨b0, b1, b2, b3, b4⟩, -⟩ := c5 HQA.out
    go_wp2_with fail
    refine (HD.out _ HBA.out).mono ?_
    rintro e wd2 ⟨z, pz, nz, kz, rfl, hkz, hz, hb⟩
    rw [← HR.out] at hz ⊢
    rw [← HER.out]
    have HSM := Lib.hid (told_same (y := y) (z := z) rfl HY.out hz)
    have HB3 := Lib.hid (HBA.out.trans (hb.mono HBA.out.size))
    have HQ3 := Lib.hid (HQA.out.next hb)
    have HGA3 := Lib.hid (HGA9.out.next hb)
    have HGB3 := Lib.hid (HGB9.out.next hb)
    have HKY3 := Lib.hid (hkA9 HKA.out hb)
    have HKZ := Lib.hid hkz
    have HLV1 : Hid (gB < v1.heap.size) := HGB9.out.lt
    clear hb hkz hz HD HY HR HER HKA HGA9 HGB9 HBA HQA b0 b1 b2 b3 b4
    obtain ⟨⟨b0, b1, b2, b3, b4⟩, -⟩ := c5 HQ3.out
    obtain ⟨⟨y0, y1, y2, y3, y4⟩, y5, y6, y7, y8, y9⟩ := c5 HGB3.out
    go_upto_region 13 with fail
    obtain ⟨hbA, hqB, hne⟩ := st5_next HB3.out (Nat.le_of_lt HLB.out) HGB3.out (.int .i64 z.a.k) (.int .i64 z.a.w) (.int .i64 z.a.c) (.int .i64 z.a.s) (.slice pz nz kz)
    have hqx := hne _ _ _ (Nat.ne_of_lt HLB.out) HQ3.out
    have hqA := hne _ _ _ HNE.out HGA3.out
    have hkA := KV.st5 (g := gB) (Z' := fun b => b < w.heap.size ∨ ws1.heap.size ≤ b) HKY3.out (fun b hb => by have h1 := HLB.out; have h2 := HLV.out; omega) (fun b hb => hb) (.int .i64 z.a.k) (.int .i64 z.a.w) (.int .i64 z.a.c) (.int .i64 z.a.s) (.slice pz nz kz)
    have hkB := KV.st5 (g := gB) (Z' := fun b => b < w.heap.size ∨ v1.heap.size ≤ b) HKZ.out (fun b hb => by have h1 := HLB.out; have h2 := HLV1.out; omega) (fun b hb => hb) (.int .i64 z.a.k) (.int .i64 z.a.w) (.int .i64 z.a.c) (.int .i64 z.a.s) (.slice pz nz kz)
    obtain ⟨v2, hv2⟩ : ∃ v2, v2 = st5 wd2 gB (.int .i64 z.a.k) (.int .i64 z.a.w) (.int .i64 z.a.c) (.int .i64 z.a.s) (.slice pz nz kz) := ⟨_, rfl⟩
    rw [← hv2] at hbA hqA hqB hqx hkA hkB
    unfold st5 at hv2
    rewrite [← hv2]
    have HGA4 := Lib.hid hqA
    have HGB4 := Lib.hid hqB
    have HB4 := Lib.hid hbA
    have HQ4 := Lib.hid hqx
    have HKY4 := Lib.hid hkA
    have HKZ4 := Lib.hid hkB
    clear hv2 hbA hqA hqB hqx hkA hkB hne b0 b1 b2 b3 b4 y0 y1 y2 y3 y4 y5 y6 y7 y8 y9 HGA3 HGB3 HB3 HQ3 HKY3 HKZ HGAp1 HGBp1
    obtain ⟨⟨b0, b1, b2, b3, b4⟩, -⟩ := c5 HQ4.out
    obtain ⟨⟨y0, y1, y2, y3, y4⟩, -⟩ := c5 HGA4.out
    obtain ⟨⟨z0, z1, z2, z3, z4⟩, -⟩ := c5 HGB4.out
    go_wp2_with fail
    refine (same_k HSM.out HKY4.out HKZ4.out).mono ?_
    rintro e ws2 ⟨rfl, hb⟩
    have HBp2 := Lib.hid (HB4.out.trans (hb.mono HB4.out.size))
    have HQp2 := Lib.hid (HQ4.out.next hb)
    have HGAp2 := Lib.hid (HGA4.out.next hb)
    have HGBp2 := Lib.hid (HGB4.out.next hb)
    clear hb HSM HKY4 HKZ4 HB4 HQ4 HGA4 HGB4 b0 b1 b2 b3 b4 y0 y1 y2 y3 y4 z0 z1 z2 z3 z4
    obtain ⟨⟨b0, b1, b2, b3, b4⟩, -⟩ := c5 HQp2.out
    have HC := Lib.hid (touch_ans a b HIB.out HK.out HS.out HBp2.out)
    go_wp2_with fail
    refine HC.out.mono ?_
    rintro e wc3 ⟨y, py, ny, ky, rfl, hky, hy, hb⟩
    obtain ⟨r, hr⟩ : ∃ r, r = touchI x a b := ⟨_, rfl⟩
    rw [← hr] at hy ⊢
    obtain ⟨er, her⟩ : ∃ e, e = r.2 := ⟨_, rfl⟩
    rw [← her]
    have HR := Lib.hid hr
    have HER := Lib.hid her
    have HY := Lib.hid hy
    have HB2 := Lib.hid (HBp2.out.trans (hb.mono HBp2.out.size))
    have HQ2 := Lib.hid (HQp2.out.next hb)
    have HGA2 := Lib.hid (HGAp2.out.next hb)
    have HGB2 := Lib.hid (HGBp2.out.next hb)
    have HKY := Lib.hid hky
    have HLW : Hid (gA < ws2.heap.size) := HGAp2.out.lt
    have HLV : Hid (gB < ws2.heap.size) := HGBp2.out.lt
    clear hb hky hy hr her HC b0 b1 b2 b3 b4
    obtain ⟨⟨b0, b1, b2, b3, b4⟩, -⟩ := c5 HQ2.out
    obtain ⟨⟨y0, y1, y2, y3, y4⟩, y5, y6, y7, y8, y9⟩ := c5 HGA2.out
    have HD : Hid (∀ W, Below w.heap.size w W → Calls Try.prog 42 #[.agg #[.int .i64 x.a.k, .int .i64 x.a.w, .int .i64 x.a.c, .int .i64 x.a.s, .slice p n cap], .int .i64 a, .int .i64 b] W (AnsR w.heap.size (touchI x a b) W)) := fun W h => touch_ansR a b HIB.out HK.out HS.out h
    go_upto_region 16 with fail
    obtain ⟨hbA, hqA, hne⟩ := st5_next HB2.out (Nat.le_of_lt HLA.out) HGA2.out (.int .i64 y.a.k) (.int .i64 y.a.w) (.int .i64 y.a.c) (.int .i64 y.a.s) (.slice py ny ky)
    have hqx := hne _ _ _ (Nat.ne_of_lt HLA.out) HQ2.out
    have hqB := hne _ _ _ (fun e => HNE.out e.symm) HGB2.out
    have hkA := KV.st5 (g := gA) (Z' := fun b => b < w.heap.size ∨ ws2.heap.size ≤ b) HKY.out (fun b hb => by have h1 := HLA.out; have h2 := HLW.out; omega) (fun b hb => hb) (.int .i64 y.a.k) (.int .i64 y.a.w) (.int .i64 y.a.c) (.int .i64 y.a.s) (.slice py ny ky)
    obtain ⟨v1, hv1⟩ : ∃ v1, v1 = st5 wc3 gA (.int .i64 y.a.k) (.int .i64 y.a.w) (.int .i64 y.a.c) (.int .i64 y.a.s) (.slice py ny ky) := ⟨_, rfl⟩
    rw [← hv1] at hbA hqA hqx hqB hkA
    unfold st5 at hv1
    rewrite [← hv1]
    have HGA9 := Lib.hid hqA
    have HGB9 := Lib.hid hqB
    have HBA := Lib.hid hbA
    have HQA := Lib.hid hqx
    have HKA := Lib.hid hkA
    clear hv1 hbA hqA hqB hqx hkA hne b0 b1 b2 b3 b4 y0 y1 y2 y3 y4 y5 y6 y7 y8 y9 HKY HB2 HQ2 HGA2 HGB2
    obtain ⟨⟨b0, b1, b2, b3, b4⟩, -⟩ := c5 HQA.out
    go_wp2_with fail
    refine (HD.out _ HBA.out).mono ?_
    rintro e wd3 ⟨z, pz, nz, kz, rfl, hkz, hz, hb⟩
    rw [← HR.out] at hz ⊢
    rw [← HER.out]
    have HSM := Lib.hid (told_same (y := y) (z := z) rfl HY.out hz)
    have HB3 := Lib.hid (HBA.out.trans (hb.mono HBA.out.size))
    have HQ3 := Lib.hid (HQA.out.next hb)
    have HGA3 := Lib.hid (HGA9.out.next hb)
    have HGB3 := Lib.hid (HGB9.out.next hb)
    have HKY3 := Lib.hid (hkA9 HKA.out hb)
    have HKZ := Lib.hid hkz
    have HLV1 : Hid (gB < v1.heap.size) := HGB9.out.lt
    clear hb hkz hz HD HY HR HER HKA HGA9 HGB9 HBA HQA b0 b1 b2 b3 b4
    obtain ⟨⟨b0, b1, b2, b3, b4⟩, -⟩ := c5 HQ3.out
    obtain ⟨⟨y0, y1, y2, y3, y4⟩, y5, y6, y7, y8, y9⟩ := c5 HGB3.out
    go_upto_region 17 with fail
    obtain ⟨hbA, hqB, hne⟩ := st5_next HB3.out (Nat.le_of_lt HLB.out) HGB3.out (.int .i64 z.a.k) (.int .i64 z.a.w) (.int .i64 z.a.c) (.int .i64 z.a.s) (.slice pz nz kz)
    have hqx := hne _ _ _ (Nat.ne_of_lt HLB.out) HQ3.out
    have hqA := hne _ _ _ HNE.out HGA3.out
    have hkA := KV.st5 (g := gB) (Z' := fun b => b < w.heap.size ∨ ws2.heap.size ≤ b) HKY3.out (fun b hb => by have h1 := HLB.out; have h2 := HLV.out; omega) (fun b hb => hb) (.int .i64 z.a.k) (.int .i64 z.a.w) (.int .i64 z.a.c) (.int .i64 z.a.s) (.slice pz nz kz)
    have hkB := KV.st5 (g := gB) (Z' := fun b => b < w.heap.size ∨ v1.heap.size ≤ b) HKZ.out (fun b hb => by have h1 := HLB.out; have h2 := HLV1.out; omega) (fun b hb => hb) (.int .i64 z.a.k) (.int .i64 z.a.w) (.int .i64 z.a.c) (.int .i64 z.a.s) (.slice pz nz kz)
    obtain ⟨v2, hv2⟩ : ∃ v2, v2 = st5 wd3 gB (.int .i64 z.a.k) (.int .i64 z.a.w) (.int .i64 z.a.c) (.int .i64 z.a.s) (.slice pz nz kz) := ⟨_, rfl⟩
    rw [← hv2] at hbA hqA hqB hqx hkA hkB
    unfold st5 at hv2
    rewrite [← hv2]
    have HGA4 := Lib.hid hqA
    have HGB4 := Lib.hid hqB
    have HB4 := Lib.hid hbA
    have HQ4 := Lib.hid hqx
    have HKY4 := Lib.hid hkA
    have HKZ4 := Lib.hid hkB
    clear hv2 hbA hqA hqB hqx hkA hkB hne b0 b1 b2 b3 b4 y0 y1 y2 y3 y4 y5 y6 y7 y8 y9 HGA3 HGB3 HB3 HQ3 HKY3 HKZ HGAp2 HGBp2
    obtain ⟨⟨b0, b1, b2, b3, b4⟩, -⟩ := c5 HQ4.out
    obtain ⟨⟨y0, y1, y2, y3, y4⟩, -⟩ := c5 HGA4.out
    obtain ⟨⟨z0, z1, z2, z3, z4⟩, -⟩ := c5 HGB4.out
    go_wp2_with fail
    refine (same_k HSM.out HKY4.out HKZ4.out).mono ?_
    rintro e ws3 ⟨rfl, hb⟩
    have HBp3 := Lib.hid (HB4.out.trans (hb.mono HB4.out.size))
    have HQp3 := Lib.hid (HQ4.out.next hb)
    have HGAp3 := Lib.hid (HGA4.out.next hb)
    have HGBp3 := Lib.hid (HGB4.out.next hb)
    clear hb HSM HKY4 HKZ4 HB4 HQ4 HGA4 HGB4 b0 b1 b2 b3 b4 y0 y1 y2 y3 y4 z0 z1 z2 z3 z4
    obtain ⟨⟨b0, b1, b2, b3, b4⟩, -⟩ := c5 HQp3.out
    go_wp2_with fail
    refine (awake_c ws3).mono ?_
    rintro e w5 ⟨rfl, hb⟩
    have hb5 := HBp3.out.trans (hb.mono HBp3.out.size)
    clear hb
    go_wp2_with fail
    go_ret
    exact ⟨rfl, hb5⟩
end Go.Proofs.Ytejbgnammlhcmaa.Co
end
section
namespace Go.Proofs.Ytejbgnammlhcmaa
open Go.RowKit Go.WideShapes Go.ChangeShapes Go.ChangeAt

/-- A value is a slice of these ints, in the world: nil or without elements, or a row of them. -/
def IsInts (w : World) (v : Value) (zs : List Int) : Prop :=
  (zs = [] ∧ ∃ a c, v = .slice a 0 c) ∨
  ∃ b off c, v = .slice (some ⟨b, off, none⟩) zs.length c ∧ b < w.heap.size ∧ zs.length ≤ 9223372036854775807 ∧ zs ≠ [] ∧ ∀ j, j < zs.length → w.cell? ⟨b, off + j, none⟩ = some (.int .i64 (zs.getD j 0))

section
variable {H : Type} {enc : TypeId × Value → H} {P : Program}
theorem block_of_cell {w : World} {a : Addr} {u : Value} (h : w.cell? a = some u) : a.block < w.heap.size := by
  unfold World.cell? at h
  cases hh : w.heap[a.block]? with
  | none => rw [hh] at h; simp at h
  | some o => exact (Array.getElem?_eq_some_iff.1 hh).1
theorem ints_of {t e : TypeId} {W : World} {b0 : Nat} {v : Value} {d : DataW H} {p : List MemPlace} (ht : P.underlying t = some (.slice e)) (he : P.underlying e = some (.int .i64)) (hc : P.cellsOf e = 1)
    (hv : Value.okWide P W .any b0 t v) (h : DataW.Trod enc P W 0 (fun _ => true) true t v d p) : ∃ zs, IsInts W v zs := by
  obtain ⟨a0, len, cap, rfl⟩ := okWide_slice ht hv
  obtain ⟨fuel, hf⟩ := h
  rcases open_ints ht he hc hf with ⟨hcs, _⟩ | ⟨a, len', cap', zs, hcs, _, hl, hm, hz, _, hcell, _⟩
  · simp only [Value.cells, List.cons.injEq, Value.slice.injEq, and_true] at hcs
    obtain ⟨rfl, rfl, rfl⟩ := hcs
    exact ⟨[], .inl ⟨rfl, _, _, rfl⟩⟩
  · simp only [Value.cells, List.cons.injEq, Value.slice.injEq, and_true] at hcs
    obtain ⟨rfl, rfl, rfl⟩ := hcs
    simp only [if_true] at hz
    by_cases h0 : len = 0
    · subst h0; exact ⟨[], .inl ⟨rfl, _, _, rfl⟩⟩
    · obtain ⟨b, off, spot⟩ := a
      have h1 := hcell 0 (by omega)
      have hspot : spot = none := by simpa [Addr.add] using World.cell?_spot h1
      subst hspot
      have hlen : (zs.take len).length = len := by simp; omega
      refine ⟨zs.take len, .inr ⟨b, off, cap, by rw [hlen], by simpa [Addr.add] using block_of_cell h1, by rw [hlen]; unfold maxLen at hm; omega, ?_, fun j hj => ?_⟩⟩
      · intro h; rw [h] at hlen; simp at hlen; omega
      · rw [hlen] at hj
        have := hcell j (by omega)
        rw [show ((⟨b, off, none⟩ : Addr).add j) = ⟨b, off + j, none⟩ by unfold Addr.add; split <;> simp_all] at this
        rw [this, List.getD_eq_getElem?_getD, List.getD_eq_getElem?_getD, List.getElem?_take_of_lt hj]

theorem post_args {f : Func} {s : ChangeSpec} {apart fresh handsOn : Bool} {W W' : World} {args : Array Value} {v : Value} {ds gs : List (DataW H)} {places : List MemPlace}
    (hW : DataW.Whole enc P f.params.toList s.vars apart W args.toList ds gs places)
    (hres : ∀ (b : Nat) (sp : Nat → Bool) (hd : Bool), DataW.TrodAll enc P W' b sp hd f.resultTypes.toList (v.resultList f.resultTypes.size) (s.fn H (ds ++ gs)).results [])
    (hargs : DataW.TrodAll enc P W' 0 (fun b => decide (b < W.heap.size)) true f.params.toList args.toList (s.fn H (ds ++ gs)).args places)
    (hvars : DataW.TrodVars enc P W' (fun b => decide (b < W.heap.size)) s.vars (s.fn H (ds ++ gs)).vars []) (hb : Below W.heap.size W W') :
    s.post enc P f apart fresh handsOn false W args v W' := by
  exact ⟨ds, gs, _, [], _, [], hW, hres _ _ _, hargs, hvars, World.keptBut_mono (fun p hp => ⟨hp, .inr (.inl hp)⟩) (hb.frame (· ∈ places)), fun h => by cases h⟩
end
end Go.Proofs.Ytejbgnammlhcmaa
end
section
namespace Go.Proofs.Ytejbgnammlhcmaa.Co
open Go.RowKit Go.WideShapes Go.ChangeShapes Go.ChangeAt Go.Deep
theorem cs_int : Try.prog.cellsOf 3 = 1 := by kernel_rfl
theorem cs_con : Try.prog.cellsOf 24 = 5 := by kernel_rfl
theorem cs_cons : Try.prog.cellsOf 22 = 1 := by kernel_rfl
theorem i64_of_wf {a : Int} (h : (Lit.int .i64 a).wf = true) : I64 a := by
  simp only [Lit.wf, decide_eq_true_eq, Bool.and_eq_true] at h
  have h1 : IntKind.i64.min = -9223372036854775808 := rfl
  have h2 : IntKind.i64.max = 9223372036854775807 := rfl
  unfold I64; omega
theorem bytes_con : Try.prog.bytesOf 24 = 56 := by kernel_rfl
section
variable {H : Type} {enc : TypeId × Value → H} {w : World}
theorem weights_all {P : Program} {e : TypeId} : ∀ {l : List (DataW H)} {d : DataW H}, d ∈ l → ∀ n ∈ d.weights P e, n ∈ DataW.weightsAll P e l := by
  intro l
  induction l with
  | nil => intro d h; cases h
  | cons y r ih =>
    intro d h n hn
    simp only [DataW.weightsAll, List.mem_append]
    rcases List.mem_cons.1 h with rfl | h
    · exact .inl hn
    · exact .inr (ih h n hn)
theorem open_con : ∀ (fuel : Nat) (cs : List Value) (x : DataW H × List MemPlace), DataW.trod enc Try.prog w 0 (fun _ => true) true fuel 24 cs = some x → (∀ n ∈ x.1.weights Try.prog 24, n ≤ 140737488355328) →
    ∃ (y : Con) (s : Value), cs = encC y.a s ∧ KV w (fun b => b < w.heap.size) y.ks s ∧ y.a.wide := by
  intro fuel
  induction fuel using Nat.strongRecOn with
  | ind fuel ih =>
    intro cs x h hwt
    have hcl : cs.length = 5 := by
      obtain ⟨_, _, _, _, hl, _⟩ := DataW.trod_struct Try.underlying24 h
      rw [hl, cs_con]
    match cs, hcl with
    | [c0, c1, c2, c3, c4], _ =>
      obtain ⟨xs, n, hfn, hx, _, hlen, hg⟩ := DataW.trod_struct Try.underlying24 h
      obtain ⟨y0, e0⟩ : ∃ y, xs[0]? = some y := ⟨_, List.getElem?_eq_getElem (by rw [hlen]; decide)⟩
      have k0 : DataW.trod enc Try.prog w 0 (fun _ => true) true n 3 [c0] = some y0 := by
        have h := (hg 0 _ rfl).trans e0
        simpa [cs_int] using h
      obtain ⟨y1, e1⟩ : ∃ y, xs[1]? = some y := ⟨_, List.getElem?_eq_getElem (by rw [hlen]; decide)⟩
      have k1 : DataW.trod enc Try.prog w 0 (fun _ => true) true n 3 [c1] = some y1 := by
        have h := (hg 1 _ rfl).trans e1
        simpa [cs_int] using h
      obtain ⟨y2, e2⟩ : ∃ y, xs[2]? = some y := ⟨_, List.getElem?_eq_getElem (by rw [hlen]; decide)⟩
      have k2 : DataW.trod enc Try.prog w 0 (fun _ => true) true n 3 [c2] = some y2 := by
        have h := (hg 2 _ rfl).trans e2
        simpa [cs_int] using h
      obtain ⟨y3, e3⟩ : ∃ y, xs[3]? = some y := ⟨_, List.getElem?_eq_getElem (by rw [hlen]; decide)⟩
      have k3 : DataW.trod enc Try.prog w 0 (fun _ => true) true n 3 [c3] = some y3 := by
        have h := (hg 3 _ rfl).trans e3
        simpa [cs_int] using h
      obtain ⟨y4, e4⟩ : ∃ y, xs[4]? = some y := ⟨_, List.getElem?_eq_getElem (by rw [hlen]; decide)⟩
      have k4 : DataW.trod enc Try.prog w 0 (fun _ => true) true n 22 [c4] = some y4 := by
        have h := (hg 4 _ rfl).trans e4
        simpa [cs_cons] using h
      obtain ⟨z0, q0, _, w0⟩ := DataW.trod_int Try.underlying3 k0
      simp only [List.cons.injEq, and_true] at q0
      obtain ⟨z1, q1, _, w1⟩ := DataW.trod_int Try.underlying3 k1
      simp only [List.cons.injEq, and_true] at q1
      obtain ⟨z2, q2, _, w2⟩ := DataW.trod_int Try.underlying3 k2
      simp only [List.cons.injEq, and_true] at q2
      obtain ⟨z3, q3, _, w3⟩ := DataW.trod_int Try.underlying3 k3
      simp only [List.cons.injEq, and_true] at q3
      subst q0 q1 q2 q3
      have hw4 : ∀ n ∈ y4.1.weights Try.prog 22, n ≤ 140737488355328 := fun n hn => hwt n (by
        rw [hx]
        simp only [DataW.weights, Try.underlying24]
        exact DataW.weights_mem_each (j := 4) (t := 22) (d := y4.1) rfl (by rw [List.getElem?_map, e4]; rfl) n hn)
      have hwide : I64 z0 ∧ I64 z1 ∧ I64 z2 ∧ I64 z3 := ⟨i64_of_wf w0, i64_of_wf w1, i64_of_wf w2, i64_of_wf w3⟩
      rcases DataW.trod_slice Try.underlying22 k4 with ⟨hcs, _⟩ | ⟨a, len, cap, elems, rest, n', hn', hcs, hy4, _, hl, hm, hle, hel, _⟩
      · simp only [List.cons.injEq, and_true] at hcs
        subst hcs
        exact ⟨.mk ⟨z0, z1, z2, z3⟩ [], .slice none 0 0, rfl, KV.nil w _ none 0, hwide⟩
      · simp only [List.cons.injEq, and_true] at hcs
        subst hcs
        have hy4' : y4.1 = .slice (elems.map (·.1)) (rest.map (·.1)) := by rw [hy4]
        have hlen9' : len ≤ 2513169434917 := by
          have := hw4 _ (by rw [hy4']; simp only [DataW.weights, Try.underlying22]; exact List.mem_cons_self ..)
          rw [bytes_con, List.length_map, hle] at this
          omega
        have hwe : ∀ e ∈ elems, ∀ n ∈ e.1.weights Try.prog 24, n ≤ 140737488355328 := fun e he n hn => hw4 n (by
          rw [hy4']
          simp only [DataW.weights, Try.underlying22]
          exact List.mem_cons_of_mem _ (List.mem_append.2 (.inl (weights_all (List.mem_map.2 ⟨e, he, rfl⟩) n hn))))
        have hex : ∀ i : Nat, ∃ p : Con × Value, i < len → (∀ (k : Nat) (u : Value), (encC p.1.a p.2)[k]? = some u → w.cell? (a.add (i * 5 + k)) = some u) ∧ KV w (fun b => b < w.heap.size) p.1.ks p.2 ∧ p.1.a.wide := fun i => by
          by_cases hi : i < len
          · have h9 := hel i hi
            obtain ⟨e9, he9⟩ : ∃ e, elems[i]? = some e := ⟨_, List.getElem?_eq_getElem (by omega)⟩
            rw [he9, Option.bind_eq_some_iff] at h9
            obtain ⟨cs', h10, h11⟩ := h9
            obtain ⟨y, s, rfl, h12, h13⟩ := ih n' (by omega) cs' e9 h11 (hwe e9 (List.mem_of_getElem? he9))
            rw [cs_con] at h10
            obtain ⟨_, hl5, hat⟩ := World.cells?_some h10
            refine ⟨(y, s), fun _ => ⟨fun k u hu => ?_, h12, h13⟩⟩
            have hk := (List.getElem?_eq_some_iff.1 hu).1
            rw [enc_len] at hk
            have h14 := hat k hk
            rw [← Go.Deep.add_add, h14]
            exact hu
          · exact ⟨(.mk D0 [], undef), fun h => absurd h hi⟩
        obtain ⟨f, hf⟩ := Classical.axiomOfChoice hex
        have hlist : ∀ (j : Nat) (x : Con), ((List.range len).map fun i => (f i).1)[j]? = some x → j < len ∧ x = (f j).1 := fun j x hx => by
          rw [List.getElem?_map] at hx
          have hj : j < len := by
            have := Option.map_eq_some_iff.1 hx
            obtain ⟨i, hi, _⟩ := this
            have := (List.getElem?_eq_some_iff.1 hi).1
            simpa using this
          rw [List.getElem?_range hj] at hx
          exact ⟨hj, (Option.some.inj hx).symm⟩
        have hlen9 : ((List.range len).map fun i => (f i).1).length = len := by simp
        refine ⟨.mk ⟨z0, z1, z2, z3⟩ ((List.range len).map fun i => (f i).1), .slice (some a) len cap, rfl, ?_, hwide⟩
        have := KV.mk (w := w) (Z := fun b => b < w.heap.size) ((List.range len).map fun i => (f i).1) (some a) cap (fun i => (f i).2) (by rw [hlen9]; omega) (by rw [hlen9]; exact hl) (fun j x hx => by
          obtain ⟨hj, rfl⟩ := hlist j x hx
          obtain ⟨h1, h2, h3⟩ := hf j hj
          have hc := h1 0 _ rfl
          have h0 := (hf 0 (by omega)).1 0 _ rfl
          rw [show 0 * 5 + 0 = 0 from rfl, show a.add 0 = a by unfold Addr.add; simp] at h0
          have ha : a = ⟨a.block, a.off, none⟩ := by
            have h8 : a.spot = none := World.cell?_spot h0
            obtain ⟨b, o, s⟩ := a
            simp only at h8
            subst h8; rfl
          have hlt := World.block_lt_of_cell? w _ h0
          refine ⟨a.block, a.off, by rw [← ha], hlt, hlt, h3, fun i u hu => ?_⟩
          have := h1 i u hu
          rw [ha, Addr.add_lit] at this
          rwa [show a.off + (j * 5 + i) = a.off + j * 5 + i by omega] at this) (fun j x hx => by
          obtain ⟨hj, rfl⟩ := hlist j x hx
          exact (hf j hj).2.1)
        rwa [hlen9] at this
set_option maxRecDepth 100000 in
theorem con_of {b0 : Nat} {v : Value} {d : DataW H} {q : List MemPlace} {ts : List TypeId} {ds : List (DataW H)} {j : Nat} (hsz : (DataW.weightsEach Try.prog ts ds).all (· ≤ reachBytes) = true) (ht : ts[j]? = some 24) (hd : ds[j]? = some d)
    (hv : Value.okWide Try.prog w .any b0 24 v) (h : DataW.Trod enc Try.prog w 0 (fun _ => true) true 24 v d q) :
    ∃ (x : Con) (s : Value), v = conV x.a s ∧ KV w (fun b => b < w.heap.size) x.ks s ∧ x.a.wide := by
  obtain ⟨⟨l⟩, rfl, hs5⟩ := okWide_struct Try.underlying24 hv
  obtain ⟨fuel, hf⟩ := h
  obtain ⟨x, s, h1, h2, h3⟩ := open_con fuel _ _ hf (fun n hn => by
    have := List.all_eq_true.1 hsz n (DataW.weights_mem_each ht hd n hn)
    have h9 := reachBytes_lt
    have h3 : (2 : Nat) ^ 47 = 140737488355328 := by decide
    have := of_decide_eq_true this
    omega)
  refine ⟨x, s, ?_, h2, h3⟩
  have h1 : l = encC x.a s := h1
  rw [h1]; rfl
end
end Go.Proofs.Ytejbgnammlhcmaa.Co
end
section
namespace Go.Proofs.Ytejbgnammlhcmaa.Co
open Go.RowKit Go.Shelf
theorem changes_w (x : Con) (sv : Value) (a b k : Int) (w : World) (hK : KV w (fun b => b < w.heap.size) x.ks sv) (hw : x.a.wide) (h2 : (Lit.int .i64 b).wf = true) (h3 : (Lit.int .i64 k).wf = true) :
    Calls Try.prog 7 #[conV x.a sv, .int .i64 a, .int .i64 b, .int .i64 k] w fun e w' => e = .returned (.bool true) ∧ Below w.heap.size w w' :=
  changes_c x sv a b k w (i64_of_wf h2) (i64_of_wf h3) hK hw
end Go.Proofs.Ytejbgnammlhcmaa.Co
end
section
namespace Go.Proofs.Ytejbgnammlhcmaa.lawConsChanges
open Go.ChangeShapes Go.WideShapes Go.ChangeAt Go.RowKit Go.Joins
theorem own : ownKnob Try.prog.godebug = none := by kernel_rfl
theorem laidOut : laidOutB Try.prog = true := by kernel_rfl
set_option maxHeartbeats 1000000 in
set_option maxRecDepth 100000 in
theorem lifted (os : Os) (started : os.Started) (H : Type) (enc : TypeId × Value → H) :
    ReturnsInHanded {} Try.checked os 7 .any (Rows.consChangesSpec.pre6 enc Try.prog Try.f7 Rows.consChangesRow.domain false) (Rows.consChangesSpec.post enc Try.prog Try.f7 false true false false) := by
  refine returnsInHanded_of_change_sized (C := Try.checked) own started (by kernel_rfl) Try.func7
    (ChangeSpec.witness6 (enc := enc) (C := Try.checked) false ⟨#[], #[.agg #[.int .i64 0, .int .i64 0, .int .i64 0, .int .i64 0, .slice none 0 0], .int .i64 0, .int .i64 0, .int .i64 0], []⟩ 8 (by kernel_rfl) (by kernel_rfl) (by kernel_rfl) (by kernel_rfl)) ?_
  intro W base args ds gs before hval0 hW _ hsz0 _
  have hsz : (DataW.weightsEach Try.prog (Try.f7.params.toList ++ Rows.consChangesSpec.plain.varTypes Try.prog) (ds ++ gs)).all (· ≤ reachBytes) = true := hsz0
  have hval : ∀ (j : Nat) t v, Try.f7.params[j]? = some t → args[j]? = some v → Value.okWide Try.prog W .any base t v := hval0
  have hW' := hW
  obtain ⟨p, q, hA0, hV, rfl, _, _⟩ := hW
  have hA : DataW.TrodAll enc Try.prog W 0 (fun _ => true) true Try.f7.params.toList args.toList ds p := hA0
  rw [Try.params7] at hA hval hsz
  obtain ⟨v0, vs0, d0, ds0, p0, q0, hargs, rfl, rfl, h0, r0⟩ := trodAll_cons hA
  obtain ⟨v1, vs1, d1, ds1, p1, q1, rfl, rfl, rfl, h1, r1⟩ := trodAll_cons r0
  obtain ⟨v2, vs2, d2, ds2, p2, q2, rfl, rfl, rfl, h2, r2⟩ := trodAll_cons r1
  obtain ⟨v3, vs3, d3, ds3, p3, q3, rfl, rfl, rfl, h3, r3⟩ := trodAll_cons r2
  obtain ⟨rfl, rfl, rfl⟩ := trodAll_nil r3
  obtain rfl : args = #[v0, v1, v2, v3] := by cases args; simp_all
  obtain ⟨rfl, rfl⟩ := trodVars_none hV
  have k0 := h0
  have k1 := h1
  have k2 := h2
  have k3 := h3
  clear hA0 hval0
  simp only [List.append_nil] at hW'
  obtain ⟨x0, s0, rfl, p0, z0⟩ := Co.con_of hsz (j := 0) (d := d0) rfl rfl (hval 0 24 v0 rfl rfl) h0
  obtain ⟨a1, rfl, _, _, hw1⟩ := open_int Try.underlying3 (hval 1 3 v1 rfl rfl) h1
  obtain ⟨a2, rfl, _, _, hw2⟩ := open_int Try.underlying3 (hval 2 3 v2 rfl rfl) h2
  obtain ⟨a3, rfl, _, _, hw3⟩ := open_int Try.underlying3 (hval 3 3 v3 rfl rfl) h3
  refine (Co.changes_w x0 s0 a1 a2 a3 W p0 z0 hw2 hw3).mono fun e W' ⟨he, hb⟩ => ?_
  subst he
  have g0 := Below.trod (W' := W') laidOut (by kernel_rfl) (of_decide_eq_true (by kernel_rfl)) k0 hb (fun y hy => by simpa using hW'.lt y (by simp [hy]))
  have g1 := Below.trod (W' := W') laidOut (by kernel_rfl) (of_decide_eq_true (by kernel_rfl)) k1 hb (fun y hy => by simpa using hW'.lt y (by simp [hy]))
  have g2 := Below.trod (W' := W') laidOut (by kernel_rfl) (of_decide_eq_true (by kernel_rfl)) k2 hb (fun y hy => by simpa using hW'.lt y (by simp [hy]))
  have g3 := Below.trod (W' := W') laidOut (by kernel_rfl) (of_decide_eq_true (by kernel_rfl)) k3 hb (fun y hy => by simpa using hW'.lt y (by simp [hy]))
  exact ⟨_, rfl, post_args hW' (fun _ _ _ => (trodAll_cons_mk (shut_bool Try.underlying4 _) trodAll_mk0)) (by have hh := (trodAll_cons_mk g0 (trodAll_cons_mk g1 (trodAll_cons_mk g2 (trodAll_cons_mk g3 trodAll_mk0)))); simp only [List.append_nil] at hh; exact hh) rfl hb⟩
theorem over : Rows.consChangesRow.holds Try.pinned (OpenSpec.ofChange Rows.consChangesSpec) :=
  OpenClaim.holds_of_wide 7 Try.f7 rfl rfl rfl rfl rfl rfl rfl ⟨rfl, rfl, rfl, rfl, rfl⟩ rfl rfl rfl rfl rfl (by kernel_rfl) Try.func7 (by kernel_rfl)
    (of_decide_eq_true (by kernel_rfl)) (by unfold Func.isWrapper; first | (rw [if_pos (by decide +kernel)]; kernel_rfl) | (rw [if_neg (by decide +kernel)]; exact ⟨rfl, rfl⟩))
    (fun os started H enc _ => lifted os started H enc)
theorem proved : Rows.ConsChangesSaid := over
#print axioms proved
end Go.Proofs.Ytejbgnammlhcmaa.lawConsChanges
end
