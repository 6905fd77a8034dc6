/- A tree of windows in memory. -/
import Derived.Test.YtlbbjinkblgfiaaWiB
namespace Go.Proofs.Ytlbbjinkblgfiaa
open Go.RowKit Go.Shelf Go.Maps
/-- How a tree lies: its map, each node's block, each node's slice. -/
structure Lay where
  bm : Nat
  nb : Int → Option Nat
  kv : Int → Value
/-- The blocks of a tree. -/
def Lay.foot (l : Lay) (t : Nat) : Nat → Prop := fun b => b = t ∨ b = l.bm ∨ (∃ i, l.nb i = some b) ∨ ∃ i, (l.nb i).isSome = true ∧ (l.kv i).ownBlock = some b
def ndA (d : Nd) (v : Value) : Array Value := #[.int .i64 d.win.id, .int .i64 d.win.par, .int .i64 d.win.x, .int .i64 d.win.y, .int .i64 d.win.w, .int .i64 d.win.h, .bool d.win.on, v]
abbrev intsV (l : List Int) : List Value := l.map (Value.int .i64)
structure TreeH (w : World) (t : Nat) (l : Lay) (nd : Int → Option Nd) (made : Int) (cnt : Nat) : Prop where
  tree : Blk w t 68 #[.map (some l.bm), .int .i64 made]
  map : MapAt w l.bm l.nb cnt
  dom : ∀ i, (l.nb i).isSome = (nd i).isSome
  node : ∀ i b d, l.nb i = some b → nd i = some d → Blk w b 77 (ndA d (l.kv i)) ∧ w.ownsRow 0 3 1 (l.kv i) d.kids.length (intsV d.kids)
  inj : ∀ i j b, l.nb i = some b → l.nb j = some b → i = j
  apart : ∀ i j b, (l.nb i).isSome = true → (l.nb j).isSome = true → (l.kv i).ownBlock = some b → (l.kv j).ownBlock = some b → i = j
/-- What a call on a tree turns: its own blocks, and new ones. -/
structure Turn (F F' : Nat → Prop) (w w' : World) : Prop where
  os : w'.os = w.os
  tape : w'.tape = w.tape
  output : w'.output = w.output
  size : w.heap.size ≤ w'.heap.size
  block : ∀ i, i < w.heap.size → ¬ F i → w'.heap[i]? = w.heap[i]?
  foot : ∀ i, F' i → F i ∨ w.heap.size ≤ i
section
variable {w w' w1 : World} {t : Nat} {l : Lay} {nd : Int → Option Nd} {made : Int} {cnt : Nat} {F F' F'' : Nat → Prop}
theorem Turn.trans {a b c : World} (h : Turn F F' a b) (k : Turn F' F'' b c) : Turn F F'' a c := by
  refine ⟨k.os.trans h.os, k.tape.trans h.tape, k.output.trans h.output, Nat.le_trans h.size k.size, fun i hi hn => ?_, fun i hi => ?_⟩
  · refine (k.block i (Nat.lt_of_lt_of_le hi h.size) fun hf => ?_).trans (h.block i hi hn)
    rcases h.foot i hf with h1 | h1
    · exact hn h1
    · omega
  · rcases k.foot i hi with h1 | h1
    · exact h.foot i h1
    · exact .inr (Nat.le_trans h.size h1)
theorem Turn.of_below (h : Below w.heap.size w w') : Turn F F w w' := ⟨h.os, h.tape, h.output, h.size, fun i hi _ => h.block i hi, fun _ hi => .inl hi⟩
theorem Turn.then_below {w' w'' : World} (h : Turn F F' w w') (k : Below w'.heap.size w' w'') : Turn F F' w w'' := h.trans (Turn.of_below k)
theorem Turn.after_below {w' w'' : World} (h : Below w.heap.size w w') (k : Turn F F' w' w'') : Turn F F' w w'' := (Turn.of_below h).trans k
theorem Turn.blk {g : Nat} {T : TypeId} {cs : Array Value} (h : Turn F F' w w') (hb : Blk w g T cs) (hn : ¬ F g) : Blk w' g T cs := (h.block g hb.lt hn).trans hb
theorem Turn.not {g : Nat} (h : Turn F F' w w') (hg : g < w.heap.size) (hn : ¬ F g) : ¬ F' g := fun hf => by
  rcases h.foot g hf with h1 | h1
  · exact hn h1
  · omega
theorem Turn.below {B : Nat} {a : World} (k : Below B a w) (h : Turn F F' w w') (hB : B ≤ w.heap.size) (hF : ∀ i, F i → B ≤ i) : Below B a w' :=
  k.trans ⟨h.os, h.tape, h.output, h.size, fun i hi => h.block i (by omega) (fun hf => by have := hF i hf; omega)⟩
theorem Turn.least {B : Nat} (h : Turn F F' w w') (hB : B ≤ w.heap.size) (hF : ∀ i, F i → B ≤ i) : ∀ i, F' i → B ≤ i := fun i hi => by
  rcases h.foot i hi with h1 | h1
  · exact hF i h1
  · omega
theorem row_type {v : Value} {n b : Nat} {xs : List Value} (h : w.ownsRow 0 3 1 v n xs) (hb : v.ownBlock = some b) : ∃ cs, Blk w b 3 cs := by
  obtain ⟨_, h⟩ := h
  rcases h with ⟨rfl, _⟩ | ⟨g, cap, cur, rfl, _, hg, _⟩
  · cases hb
  · obtain rfl : g = b := by simpa [Value.ownBlock] using hb
    exact ⟨_, hg⟩
theorem blk_not_map {g : Nat} {T : TypeId} {cs : Array Value} {nb : Int → Option Nat} {n bm : Nat} (h : Blk w g T cs) (hm : MapAt w bm nb n) : g ≠ bm := by
  rintro rfl
  obtain ⟨D, ⟨es, clock, h1, _⟩, _⟩ := hm
  unfold Blk at h
  rw [h] at h1
  cases h1
theorem TreeH.ndOf (h : TreeH w t l nd made cnt) {i : Int} {b : Nat} (hb : l.nb i = some b) : ∃ d, nd i = some d := by
  have := h.dom i
  rw [hb] at this
  exact Option.isSome_iff_exists.1 this.symm
theorem TreeH.block (h : TreeH w t l nd made cnt) {i : Int} {d : Nd} (hd : nd i = some d) : ∃ b, l.nb i = some b := by
  have := h.dom i
  rw [hd] at this
  exact Option.isSome_iff_exists.1 this
theorem TreeH.none_ (h : TreeH w t l nd made cnt) {i : Int} (hd : nd i = none) : l.nb i = none := by
  have := h.dom i
  rw [hd] at this
  simpa using this
theorem TreeH.foot_lt (h : TreeH w t l nd made cnt) {b : Nat} (hb : l.foot t b) : b < w.heap.size := by
  rcases hb with rfl | rfl | ⟨i, hi⟩ | ⟨i, hi, hv⟩
  · exact h.tree.lt
  · exact h.map.lt
  · obtain ⟨d, hd⟩ := h.ndOf hi
    exact (h.node i b d hi hd).1.lt
  · obtain ⟨b', hb'⟩ := Option.isSome_iff_exists.1 hi
    obtain ⟨d, hd⟩ := h.ndOf hb'
    obtain ⟨cs, hc⟩ := row_type (h.node i b' d hb' hd).2 hv
    exact hc.lt
theorem row_same {v : Value} {n : Nat} {xs : List Value} (h : w.ownsRow 0 3 1 v n xs) (hs : ∀ b, v.ownBlock = some b → w'.heap[b]? = w.heap[b]?) : w'.ownsRow 0 3 1 v n xs := by
  obtain ⟨h0, h1⟩ := h
  refine ⟨h0, ?_⟩
  rcases h1 with h1 | ⟨g, cap, cur, rfl, h2, h3, h4⟩
  · exact .inl h1
  · exact .inr ⟨g, cap, cur, rfl, h2, (hs g rfl).trans h3, h4⟩
/-- Its blocks as they were: the tree as it was. -/
theorem TreeH.kept (h : TreeH w t l nd made cnt) (hk : ∀ b, l.foot t b → w'.heap[b]? = w.heap[b]?) : TreeH w' t l nd made cnt := by
  refine ⟨(hk t (.inl rfl)).trans h.tree, h.map.same (hk l.bm (.inr (.inl rfl))), h.dom, fun i b d hb hd => ?_, h.inj, h.apart⟩
  obtain ⟨h1, h2⟩ := h.node i b d hb hd
  exact ⟨(hk b (.inr (.inr (.inl ⟨i, hb⟩)))).trans h1, row_same h2 fun r hr => hk r (.inr (.inr (.inr ⟨i, by rw [hb]; rfl, hr⟩)))⟩
theorem TreeH.next (h : TreeH w t l nd made cnt) (hb : Below w.heap.size w w') : TreeH w' t l nd made cnt := h.kept fun b hf => hb.block b (h.foot_lt hf)
theorem TreeH.drewN (h : TreeH w t l nd made cnt) (q : Nat) : TreeH (w.drewN q) t l nd made cnt := h.kept fun _ _ => rfl
theorem TreeH.drew (h : TreeH w t l nd made cnt) : TreeH w.drew t l nd made cnt := h.kept fun _ _ => rfl
theorem TreeH.alloc (h : TreeH w t l nd made cnt) (o : Obj) : TreeH (w.alloc o) t l nd made cnt := h.next ((Below.refl _ _).alloc (Nat.le_refl _) o)
theorem TreeH.look (h : TreeH w t l nd made cnt) {i : Int} (hi : I64 i) : (Instr.lookup 66 (.map (some l.bm)) (.int .i64 i) false).run Try.prog w = .ok (ptrOf (l.nb i)) w := h.map.look hi
theorem TreeH.look_some (h : TreeH w t l nd made cnt) {i : Int} (hi : I64 i) {b : Nat} (hb : l.nb i = some b) : (Instr.lookup 66 (.map (some l.bm)) (.int .i64 i) false).run Try.prog w = .ok (.pointer (some ⟨b, 0, none⟩)) w := by
  have := h.look hi; rw [hb] at this; exact this
theorem TreeH.look_none (h : TreeH w t l nd made cnt) {i : Int} (hi : I64 i) (hb : l.nb i = none) : (Instr.lookup 66 (.map (some l.bm)) (.int .i64 i) false).run Try.prog w = .ok (.pointer none) w := by
  have := h.look hi; rw [hb] at this; exact this
theorem TreeH.t_node (h : TreeH w t l nd made cnt) {i : Int} {b : Nat} (hb : l.nb i = some b) : t ≠ b := by
  obtain ⟨d, hd⟩ := h.ndOf hb
  exact h.tree.ne_ (h.node i b d hb hd).1 (by decide)
theorem TreeH.t_row (h : TreeH w t l nd made cnt) {i : Int} {b : Nat} (hi : (l.nb i).isSome = true) (hv : (l.kv i).ownBlock = some b) : t ≠ b := by
  obtain ⟨b', hb'⟩ := Option.isSome_iff_exists.1 hi
  obtain ⟨d, hd⟩ := h.ndOf hb'
  obtain ⟨cs, hc⟩ := row_type (h.node i b' d hb' hd).2 hv
  exact h.tree.ne_ hc (by decide)
theorem TreeH.node_row (h : TreeH w t l nd made cnt) {i j : Int} {b r : Nat} (hb : l.nb i = some b) (hj : (l.nb j).isSome = true) (hv : (l.kv j).ownBlock = some r) : b ≠ r := by
  obtain ⟨b', hb'⟩ := Option.isSome_iff_exists.1 hj
  obtain ⟨d', hd'⟩ := h.ndOf hb'
  obtain ⟨d, hd⟩ := h.ndOf hb
  obtain ⟨cs, hc⟩ := row_type (h.node j b' d' hb' hd').2 hv
  exact (h.node i b d hb hd).1.ne_ hc (by decide)
/-- A node written anew, and its slice. -/
theorem TreeH.put (h : TreeH w t l nd made cnt) {p : Int} {bp : Nat} (hp : l.nb p = some bp) (d' : Nd) (v' : Value)
    (hkeep : ∀ i, i < w.heap.size → i ≠ bp → some i ≠ (l.kv p).ownBlock → w'.heap[i]? = w.heap[i]?) (hb : Blk w' bp 77 (ndA d' v'))
    (hr : w'.ownsRow 0 3 1 v' d'.kids.length (intsV d'.kids)) (hv : ∀ r, v'.ownBlock = some r → (l.kv p).ownBlock = some r ∨ w.heap.size ≤ r) :
    TreeH w' t { l with kv := upd l.kv p v' } (upd nd p (some d')) made cnt := by
  have hps : (l.nb p).isSome = true := by rw [hp]; rfl
  refine ⟨(hkeep t h.tree.lt (h.t_node hp) (fun e => h.t_row hps e.symm rfl)).trans h.tree, ?_, fun i => ?_, fun i b d hi hd => ?_, h.inj, fun i j b hi hj h1 h2 => ?_⟩
  · refine h.map.same (hkeep l.bm h.map.lt ?_ ?_)
    · obtain ⟨d, hd⟩ := h.ndOf hp
      exact fun e => blk_not_map (h.node p bp d hp hd).1 h.map e.symm
    · intro e
      obtain ⟨d, hd⟩ := h.ndOf hp
      obtain ⟨cs, hc⟩ := row_type (h.node p bp d hp hd).2 e.symm
      exact blk_not_map hc h.map rfl
  · show (l.nb i).isSome = _
    unfold upd
    split
    · next e => rw [e, hp]; rfl
    · exact h.dom i
  · by_cases hip : i = p
    · subst hip
      obtain rfl : b = bp := by
        have : l.nb i = some b := hi
        rw [hp] at this; injection this with this; exact this.symm
      rw [upd_same] at hd
      injection hd with hd
      subst hd
      show Blk w' b _ (ndA d' (upd l.kv i v' i)) ∧ w'.ownsRow 0 _ 1 (upd l.kv i v' i) _ _
      rw [upd_same]
      exact ⟨hb, hr⟩
    · rw [upd_other _ _ hip] at hd
      have hi' : l.nb i = some b := hi
      obtain ⟨h1, h2⟩ := h.node i b d hi' hd
      have hbne : b ≠ bp := fun e => hip (h.inj i p b hi' (e ▸ hp))
      show Blk w' b _ (ndA d (upd l.kv p v' i)) ∧ w'.ownsRow 0 _ 1 (upd l.kv p v' i) _ _
      rw [upd_other _ _ hip]
      refine ⟨(hkeep b h1.lt hbne (fun e => h.node_row hi' hps e.symm rfl)).trans h1, row_same h2 fun r hr' => ?_⟩
      obtain ⟨cs, hc⟩ := row_type h2 hr'
      exact hkeep r hc.lt (fun e => h.node_row hp (j := i) (by rw [hi']; rfl) hr' e.symm) (fun e => hip (h.apart i p r (by rw [hi']; rfl) hps hr' e.symm))
  · have hi' : (l.nb i).isSome = true := hi
    have hj' : (l.nb j).isSome = true := hj
    have lt : ∀ k, (l.nb k).isSome = true → ∀ r, (l.kv k).ownBlock = some r → r < w.heap.size := fun k hk r hr => h.foot_lt (.inr (.inr (.inr ⟨k, hk, hr⟩)))
    have h1' : (upd l.kv p v' i).ownBlock = some b := h1
    have h2' : (upd l.kv p v' j).ownBlock = some b := h2
    by_cases hip : i = p
    · by_cases hjp : j = p
      · rw [hip, hjp]
      · subst hip
        rw [upd_same] at h1'
        rw [upd_other _ _ hjp] at h2'
        rcases hv b h1' with h3 | h3
        · exact h.apart i j b hi' hj' h3 h2'
        · have := lt j hj' b h2'; omega
    · rw [upd_other _ _ hip] at h1'
      by_cases hjp : j = p
      · subst hjp
        rw [upd_same] at h2'
        rcases hv b h2' with h3 | h3
        · exact h.apart i j b hi' hj' h1' h3
        · have := lt i hi' b h1'; omega
      · rw [upd_other _ _ hjp] at h2'
        exact h.apart i j b hi' hj' h1' h2'
/-- What 'put' turns. -/
theorem TreeH.put_turn (h : TreeH w t l nd made cnt) {p : Int} {bp : Nat} (hp : l.nb p = some bp) (v' : Value)
    (hos : w'.os = w.os ∧ w'.tape = w.tape ∧ w'.output = w.output ∧ w.heap.size ≤ w'.heap.size)
    (hkeep : ∀ i, i < w.heap.size → i ≠ bp → some i ≠ (l.kv p).ownBlock → w'.heap[i]? = w.heap[i]?) (hv : ∀ r, v'.ownBlock = some r → (l.kv p).ownBlock = some r ∨ w.heap.size ≤ r) :
    Turn (l.foot t) (({ l with kv := upd l.kv p v' } : Lay).foot t) w w' := by
  have hps : (l.nb p).isSome = true := by rw [hp]; rfl
  refine ⟨hos.1, hos.2.1, hos.2.2.1, hos.2.2.2, fun i hi hn => hkeep i hi (fun e => hn (.inr (.inr (.inl ⟨p, by rw [e]; exact hp⟩)))) (fun e => hn (.inr (.inr (.inr ⟨p, hps, e.symm⟩)))), fun i hi => ?_⟩
  rcases hi with rfl | rfl | ⟨j, hj⟩ | ⟨j, hj, hr⟩
  · exact .inl (.inl rfl)
  · exact .inl (.inr (.inl rfl))
  · exact .inl (.inr (.inr (.inl ⟨j, hj⟩)))
  · have hr' : (upd l.kv p v' j).ownBlock = some i := hr
    by_cases hjp : j = p
    · subst hjp
      rw [upd_same] at hr'
      rcases hv i hr' with h1 | h1
      · exact .inl (.inr (.inr (.inr ⟨j, hj, h1⟩)))
      · exact .inr h1
    · rw [upd_other _ _ hjp] at hr'
      exact .inl (.inr (.inr (.inr ⟨j, hj, hr'⟩)))
end
end Go.Proofs.Ytlbbjinkblgfiaa
