/- Texts Sag. -/
import Derived.Test.YtnhchpiafchdgaaGreatTab
import Derived.Maps.OwnSet
import Derived.Maps.Views
import Derived.Lib.Hide
import Derived.Deep.AppendLies
import Derived.Deep.RegionHeld3
import Derived.Deep.RegionLaw
import Derived.Deep.DeepCutAuto
import Derived.Test.YtnhchpiafchdgaaGreatTaa
section
namespace Go.Proofs.YtnhchpiafchdgaaGreat
open Go.RowKit Go.Shelf Go.Maps
def elemP (v : Value) : Option (DataW Unit × List MemPlace) :=
 match v with
 | .pointer (some ⟨b, 0, none⟩) => some (.lit (.int .i64 b), [])
 | .pointer none => some (.lit (.int .i64 (-1)), [])
 | _ => none
def ptrOf (o : Option Nat) : Value := match o with
 | some b => .pointer (some ⟨b, 0, none⟩)
 | none => .pointer none
def litOf (o : Option Nat) : DataW Unit := .lit (.int .i64 (match o with | some b => (b : Int) | none => -1))
theorem elemP_of (o : Option Nat) : elemP (ptrOf o) = some (litOf o, []) := by cases o <;> rfl
theorem elemP_inv {v : Value} {o : Option Nat} {ps : List MemPlace} (h : elemP v = some (litOf o, ps)) : v = ptrOf o := by
 unfold elemP at h
 split at h
 · next b =>
   simp only [Option.some.injEq, Prod.mk.injEq] at h
   obtain ⟨h, _⟩ := h
   cases o with
   | none => simp only [litOf, DataW.lit.injEq, Lit.int.injEq] at h; omega
   | some c =>
    simp only [litOf, DataW.lit.injEq, Lit.int.injEq] at h
    obtain rfl : b = c := by omega
    rfl
 · simp only [Option.some.injEq, Prod.mk.injEq] at h
   obtain ⟨h, _⟩ := h
   cases o with
   | none => rfl
   | some c => simp only [litOf, DataW.lit.injEq, Lit.int.injEq] at h; omega
 · cases h
abbrev keyI (i : Int) : Lit := .int .i64 i
theorem wf_I64 {i : Int} (h : I64 i) : (Lit.int .i64 i).wf = true := WalkArith.wf_i64 (by unfold I64 at h; omega)
theorem key_of {i : Int} (h : I64 i) : keyOf Tryz.prog 3 (.int .i64 i) = some (keyI i) := keyOf_int_mk Tryz.underlying3 (wf_I64 h)
theorem keyed : Keyed Tryz.prog 3 := int_keyed Tryz.underlying3
theorem zeroK (w : World) : (zeroValue 100).run Tryz.prog w = .ok (.pointer none) w := by kernel_rfl
def MapAt (w : World) (bm : Nat) (nb : Int → Option Nat) (n : Nat) : Prop :=
 ∃ D, w.ownsMap Tryz.prog 3 elemP bm n D ∧ Maps.size D = n ∧ ∀ i, I64 i → D.atKey (keyI i) (litOf none) = litOf (nb i) ∧ Maps.has D (keyI i) = (nb i).isSome
theorem tight {w : World} {b n : Nat} {D : DataW Unit} (h : w.ownsMap Tryz.prog 3 elemP b n D) : w.ownsMap Tryz.prog 3 elemP b (Maps.size D) D := by
 obtain ⟨es, clock, hb, F, _, rfl⟩ := h
 refine ⟨es, clock, hb, F, ?_, rfl⟩
 simp [Maps.size, length_sorted]
section
variable {w w' : World} {bm n : Nat} {nb : Int → Option Nat}
theorem MapAt.made (w : World) : MapAt (w.alloc (.map #[] 0)) w.heap.size (fun _ => none) 0 :=
 ⟨_, World.ownsMap_made _ _ _ _, rfl, fun _ _ => ⟨rfl, rfl⟩⟩
theorem MapAt.lt (h : MapAt w bm nb n) : bm < w.heap.size := by obtain ⟨D, h, _⟩ := h; exact h.lt
theorem MapAt.kept {row : Option Nat} (h : MapAt w bm nb n) (hg : w.grownBy w' row) (hne : some bm ≠ row) : MapAt w' bm nb n := by
 obtain ⟨D, h, r⟩ := h
 exact ⟨D, h.kept hg hne, r⟩
theorem MapAt.same (h : MapAt w bm nb n) (hb : w'.heap[bm]? = w.heap[bm]?) : MapAt w' bm nb n := by
 obtain ⟨D, ⟨es, clock, h1, r1⟩, r⟩ := h
 exact ⟨D, ⟨es, clock, hb.trans h1, r1⟩, r⟩
theorem MapAt.look (h : MapAt w bm nb n) {i : Int} (hi : I64 i) : (Instr.lookup 103 (.map (some bm)) (.int .i64 i) false).run Tryz.prog w = .ok (ptrOf (nb i)) w := by
 obtain ⟨D, h, _, r⟩ := h
 obtain ⟨v, ps, h1, h2⟩ := h.lookup keyed Tryz.underlying103 (zeroK w) (elemP_of none) (key_of hi)
 rw [(r i hi).1] at h2
 rw [h1, elemP_inv h2]
theorem keyI_ne {i j : Int} (h : i ≠ j) : keyI i ≠ keyI j := fun e => h (by injection e)
theorem MapAt.put (h : MapAt w bm nb n) {i : Int} (hi : I64 i) (hn : n < 4611686018427387904) (hnone : nb i = none) (b : Nat) :
   ∃ w', (Instr.mapUpdate 103 (.map (some bm)) (.int .i64 i) (ptrOf (some b))).run Tryz.prog w = .ok () w' ∧ MapAt w' bm (upd nb i (some b)) (n + 1) ∧ w.grownBy w' (some bm) := by
 obtain ⟨D, h, hs, r⟩ := h
 obtain ⟨w', h1, h2, h3⟩ := h.update keyed Tryz.underlying103 (by unfold maxLen; omega) (key_of hi) (elemP_of (some b))
 have hsz : Maps.size (D.put (keyI i) (litOf (some b))) = n + 1 := by
   rw [Maps.size_put (h.tidy keyed), (r i hi).2, hnone, hs]; rfl
 refine ⟨w', h1, ⟨_, ?_, hsz, fun j hj => ?_⟩, h3⟩
 · have := tight h2; rwa [hsz] at this
 · by_cases hij : j = i
   · subst hij
     rw [upd_same]
     exact ⟨Maps.atKey_put_same h.isMap (show WideAt.IsKeyLit (keyI j) from trivial) _ _, Maps.has_put_same h.isMap (show WideAt.IsKeyLit (keyI j) from trivial) _⟩
   · rw [upd_other _ _ hij]
     exact ⟨(Maps.atKey_put_other (keyI_ne hij) _ _).trans (r j hj).1, (Maps.has_put_other (keyI_ne hij) _).trans (r j hj).2⟩
theorem MapAt.del (h : MapAt w bm nb n) {i : Int} (hi : I64 i) {b : Nat} (hsome : nb i = some b) (ty : TypeId) :
   ∃ w', (Builtin.delete_ #[103, 3] ty #[.map (some bm), .int .i64 i]).run Tryz.prog w = .ok (.tuple #[]) w' ∧ MapAt w' bm (upd nb i none) (n - 1) ∧ w.grownBy w' (some bm) ∧ 1 ≤ n := by
 obtain ⟨D, h, hs, r⟩ := h
 obtain ⟨w', h1, h2, h3⟩ := h.drop keyed Tryz.underlying103 (key_of hi) ty
 have h4 := Maps.size_del (k := keyI i) (h.tidy keyed)
 rw [(r i hi).2, hsome, hs] at h4
 simp only [Option.isSome_some, if_true] at h4
 have hsz : Maps.size (D.del (keyI i)) = n - 1 := by omega
 refine ⟨w', h1, ⟨_, ?_, hsz, fun j hj => ?_⟩, h3.grown, by omega⟩
 · have := tight h2; rwa [hsz] at this
 · by_cases hij : j = i
   · subst hij
     rw [upd_same]
     exact ⟨Maps.atKey_del_same _, Maps.has_del_same⟩
   · rw [upd_other _ _ hij]
     exact ⟨(Maps.atKey_del_other (keyI_ne hij) _).trans (r j hj).1, (Maps.has_del_other (keyI_ne hij)).trans (r j hj).2⟩
theorem MapAt.len (h : MapAt w bm nb n) (ty : TypeId) : (Builtin.len_ #[103] ty #[.map (some bm)]).run Tryz.prog w = .ok (.int .i64 n) w := by
 obtain ⟨D, h, hs, _⟩ := h
 rw [h.len Tryz.underlying103 ty, hs]
end
end Go.Proofs.YtnhchpiafchdgaaGreat
end
section
namespace Go.Proofs.YtnhchpiafchdgaaGreat
open Go.RowKit Go.Shelf Go.Maps
structure Lay where
 bm : Nat
 nb : Int → Option Nat
 kv : Int → Value
def Lay.foot (l : Lay) (t : Nat) : Nat → Prop := fun b => b = t ∨ b = l.bm ∨ (∃ i, l.nb i = some b) ∨ ∃ i, (l.nb i).isSome = true ∧ (l.kv i).ownBlock = some b
def ndA (d : Nd) (v : Value) : Array Value := #[.int .i64 d.win.id, .int .i64 d.win.par, .int .i64 d.win.x, .int .i64 d.win.y, .int .i64 d.win.w, .int .i64 d.win.h, .bool d.win.on, v]
abbrev intsV (l : List Int) : List Value := l.map (Value.int .i64)
structure TreeH (w : World) (t : Nat) (l : Lay) (nd : Int → Option Nd) (made : Int) (cnt : Nat) : Prop where
 tree : Blk w t 105 #[.map (some l.bm), .int .i64 made]
 map : MapAt w l.bm l.nb cnt
 dom : ∀ i, (l.nb i).isSome = (nd i).isSome
 node : ∀ i b d, l.nb i = some b → nd i = some d → Blk w b 102 (ndA d (l.kv i)) ∧ w.ownsRow 0 3 1 (l.kv i) d.kids.length (intsV d.kids)
 inj : ∀ i j b, l.nb i = some b → l.nb j = some b → i = j
 apart : ∀ i j b, (l.nb i).isSome = true → (l.nb j).isSome = true → (l.kv i).ownBlock = some b → (l.kv j).ownBlock = some b → i = j
structure Turn (F F' : Nat → Prop) (w w' : World) : Prop where
 os : w'.os = w.os
 tape : w'.tape = w.tape
 output : w'.output = w.output
 size : w.heap.size ≤ w'.heap.size
 block : ∀ i, i < w.heap.size → ¬ F i → w'.heap[i]? = w.heap[i]?
 foot : ∀ i, F' i → F i ∨ w.heap.size ≤ i
section
variable {w w' w1 : World} {t : Nat} {l : Lay} {nd : Int → Option Nd} {made : Int} {cnt : Nat} {F F' F'' : Nat → Prop}
theorem Turn.trans {a b c : World} (h : Turn F F' a b) (k : Turn F' F'' b c) : Turn F F'' a c := by
 refine ⟨k.os.trans h.os, k.tape.trans h.tape, k.output.trans h.output, Nat.le_trans h.size k.size, fun i hi hn => ?_, fun i hi => ?_⟩
 · refine (k.block i (Nat.lt_of_lt_of_le hi h.size) fun hf => ?_).trans (h.block i hi hn)
   rcases h.foot i hf with h1 | h1
   · exact hn h1
   · omega
 · rcases k.foot i hi with h1 | h1
   · exact h.foot i h1
   · exact .inr (Nat.le_trans h.size h1)
theorem Turn.of_below (h : Below w.heap.size w w') : Turn F F w w' := ⟨h.os, h.tape, h.output, h.size, fun i hi _ => h.block i hi, fun _ hi => .inl hi⟩
theorem Turn.then_below {w' w'' : World} (h : Turn F F' w w') (k : Below w'.heap.size w' w'') : Turn F F' w w'' := h.trans (Turn.of_below k)
theorem Turn.after_below {w' w'' : World} (h : Below w.heap.size w w') (k : Turn F F' w' w'') : Turn F F' w w'' := (Turn.of_below h).trans k
theorem Turn.blk {g : Nat} {T : TypeId} {cs : Array Value} (h : Turn F F' w w') (hb : Blk w g T cs) (hn : ¬ F g) : Blk w' g T cs := (h.block g hb.lt hn).trans hb
theorem Turn.not {g : Nat} (h : Turn F F' w w') (hg : g < w.heap.size) (hn : ¬ F g) : ¬ F' g := fun hf => by
 rcases h.foot g hf with h1 | h1
 · exact hn h1
 · omega
theorem Turn.below {B : Nat} {a : World} (k : Below B a w) (h : Turn F F' w w') (hB : B ≤ w.heap.size) (hF : ∀ i, F i → B ≤ i) : Below B a w' :=
 k.trans ⟨h.os, h.tape, h.output, h.size, fun i hi => h.block i (by omega) (fun hf => by have := hF i hf; omega)⟩
theorem Turn.least {B : Nat} (h : Turn F F' w w') (hB : B ≤ w.heap.size) (hF : ∀ i, F i → B ≤ i) : ∀ i, F' i → B ≤ i := fun i hi => by
 rcases h.foot i hi with h1 | h1
 · exact hF i h1
 · omega
theorem row_type {v : Value} {n b : Nat} {xs : List Value} (h : w.ownsRow 0 3 1 v n xs) (hb : v.ownBlock = some b) : ∃ cs, Blk w b 3 cs := by
 obtain ⟨_, h⟩ := h
 rcases h with ⟨rfl, _⟩ | ⟨g, cap, cur, rfl, _, hg, _⟩
 · cases hb
 · obtain rfl : g = b := by simpa [Value.ownBlock] using hb
   exact ⟨_, hg⟩
theorem blk_not_map {g : Nat} {T : TypeId} {cs : Array Value} {nb : Int → Option Nat} {n bm : Nat} (h : Blk w g T cs) (hm : MapAt w bm nb n) : g ≠ bm := by
 rintro rfl
 obtain ⟨D, ⟨es, clock, h1, _⟩, _⟩ := hm
 unfold Blk at h
 rw [h] at h1
 cases h1
theorem TreeH.ndOf (h : TreeH w t l nd made cnt) {i : Int} {b : Nat} (hb : l.nb i = some b) : ∃ d, nd i = some d := by
 have := h.dom i
 rw [hb] at this
 exact Option.isSome_iff_exists.1 this.symm
theorem TreeH.block (h : TreeH w t l nd made cnt) {i : Int} {d : Nd} (hd : nd i = some d) : ∃ b, l.nb i = some b := by
 have := h.dom i
 rw [hd] at this
 exact Option.isSome_iff_exists.1 this
theorem TreeH.none_ (h : TreeH w t l nd made cnt) {i : Int} (hd : nd i = none) : l.nb i = none := by
 have := h.dom i
 rw [hd] at this
 simpa using this
theorem TreeH.foot_lt (h : TreeH w t l nd made cnt) {b : Nat} (hb : l.foot t b) : b < w.heap.size := by
 rcases hb with rfl | rfl | ⟨i, hi⟩ | ⟨i, hi, hv⟩
 · exact h.tree.lt
 · exact h.map.lt
 · obtain ⟨d, hd⟩ := h.ndOf hi
   exact (h.node i b d hi hd).1.lt
 · obtain ⟨b', hb'⟩ := Option.isSome_iff_exists.1 hi
   obtain ⟨d, hd⟩ := h.ndOf hb'
   obtain ⟨cs, hc⟩ := row_type (h.node i b' d hb' hd).2 hv
   exact hc.lt
theorem row_same {v : Value} {n : Nat} {xs : List Value} (h : w.ownsRow 0 3 1 v n xs) (hs : ∀ b, v.ownBlock = some b → w'.heap[b]? = w.heap[b]?) : w'.ownsRow 0 3 1 v n xs := by
 obtain ⟨h0, h1⟩ := h
 refine ⟨h0, ?_⟩
 rcases h1 with h1 | ⟨g, cap, cur, rfl, h2, h3, h4⟩
 · exact .inl h1
 · exact .inr ⟨g, cap, cur, rfl, h2, (hs g rfl).trans h3, h4⟩
theorem TreeH.kept (h : TreeH w t l nd made cnt) (hk : ∀ b, l.foot t b → w'.heap[b]? = w.heap[b]?) : TreeH w' t l nd made cnt := by
 refine ⟨(hk t (.inl rfl)).trans h.tree, h.map.same (hk l.bm (.inr (.inl rfl))), h.dom, fun i b d hb hd => ?_, h.inj, h.apart⟩
 obtain ⟨h1, h2⟩ := h.node i b d hb hd
 exact ⟨(hk b (.inr (.inr (.inl ⟨i, hb⟩)))).trans h1, row_same h2 fun r hr => hk r (.inr (.inr (.inr ⟨i, by rw [hb]; rfl, hr⟩)))⟩
theorem TreeH.next (h : TreeH w t l nd made cnt) (hb : Below w.heap.size w w') : TreeH w' t l nd made cnt := h.kept fun b hf => hb.block b (h.foot_lt hf)
theorem TreeH.drewN (h : TreeH w t l nd made cnt) (q : Nat) : TreeH (w.drewN q) t l nd made cnt := h.kept fun _ _ => rfl
theorem TreeH.drew (h : TreeH w t l nd made cnt) : TreeH w.drew t l nd made cnt := h.kept fun _ _ => rfl
theorem TreeH.alloc (h : TreeH w t l nd made cnt) (o : Obj) : TreeH (w.alloc o) t l nd made cnt := h.next ((Below.refl _ _).alloc (Nat.le_refl _) o)
theorem TreeH.look (h : TreeH w t l nd made cnt) {i : Int} (hi : I64 i) : (Instr.lookup 103 (.map (some l.bm)) (.int .i64 i) false).run Tryz.prog w = .ok (ptrOf (l.nb i)) w := h.map.look hi
theorem TreeH.look_some (h : TreeH w t l nd made cnt) {i : Int} (hi : I64 i) {b : Nat} (hb : l.nb i = some b) : (Instr.lookup 103 (.map (some l.bm)) (.int .i64 i) false).run Tryz.prog w = .ok (.pointer (some ⟨b, 0, none⟩)) w := by
 have := h.look hi; rw [hb] at this; exact this
theorem TreeH.t_node (h : TreeH w t l nd made cnt) {i : Int} {b : Nat} (hb : l.nb i = some b) : t ≠ b := by
 obtain ⟨d, hd⟩ := h.ndOf hb
 exact h.tree.ne_ (h.node i b d hb hd).1 (by decide)
theorem TreeH.t_row (h : TreeH w t l nd made cnt) {i : Int} {b : Nat} (hi : (l.nb i).isSome = true) (hv : (l.kv i).ownBlock = some b) : t ≠ b := by
 obtain ⟨b', hb'⟩ := Option.isSome_iff_exists.1 hi
 obtain ⟨d, hd⟩ := h.ndOf hb'
 obtain ⟨cs, hc⟩ := row_type (h.node i b' d hb' hd).2 hv
 exact h.tree.ne_ hc (by decide)
theorem TreeH.node_row (h : TreeH w t l nd made cnt) {i j : Int} {b r : Nat} (hb : l.nb i = some b) (hj : (l.nb j).isSome = true) (hv : (l.kv j).ownBlock = some r) : b ≠ r := by
 obtain ⟨b', hb'⟩ := Option.isSome_iff_exists.1 hj
 obtain ⟨d', hd'⟩ := h.ndOf hb'
 obtain ⟨d, hd⟩ := h.ndOf hb
 obtain ⟨cs, hc⟩ := row_type (h.node j b' d' hb' hd').2 hv
 exact (h.node i b d hb hd).1.ne_ hc (by decide)
theorem TreeH.put (h : TreeH w t l nd made cnt) {p : Int} {bp : Nat} (hp : l.nb p = some bp) (d' : Nd) (v' : Value)
   (hkeep : ∀ i, i < w.heap.size → i ≠ bp → some i ≠ (l.kv p).ownBlock → w'.heap[i]? = w.heap[i]?) (hb : Blk w' bp 102 (ndA d' v'))
   (hr : w'.ownsRow 0 3 1 v' d'.kids.length (intsV d'.kids)) (hv : ∀ r, v'.ownBlock = some r → (l.kv p).ownBlock = some r ∨ w.heap.size ≤ r) :
   TreeH w' t { l with kv := upd l.kv p v' } (upd nd p (some d')) made cnt := by
 have hps : (l.nb p).isSome = true := by rw [hp]; rfl
 refine ⟨(hkeep t h.tree.lt (h.t_node hp) (fun e => h.t_row hps e.symm rfl)).trans h.tree, ?_, fun i => ?_, fun i b d hi hd => ?_, h.inj, fun i j b hi hj h1 h2 => ?_⟩
 · refine h.map.same (hkeep l.bm h.map.lt ?_ ?_)
   · obtain ⟨d, hd⟩ := h.ndOf hp
     exact fun e => blk_not_map (h.node p bp d hp hd).1 h.map e.symm
   · intro e
     obtain ⟨d, hd⟩ := h.ndOf hp
     obtain ⟨cs, hc⟩ := row_type (h.node p bp d hp hd).2 e.symm
     exact blk_not_map hc h.map rfl
 · show (l.nb i).isSome = _
   unfold upd
   split
   · next e => rw [e, hp]; rfl
   · exact h.dom i
 · by_cases hip : i = p
   · subst hip
     obtain rfl : b = bp := by
       have : l.nb i = some b := hi
       rw [hp] at this; injection this with this; exact this.symm
     rw [upd_same] at hd
     injection hd with hd
     subst hd
     show Blk w' b _ (ndA d' (upd l.kv i v' i)) ∧ w'.ownsRow 0 _ 1 (upd l.kv i v' i) _ _
     rw [upd_same]
     exact ⟨hb, hr⟩
   · rw [upd_other _ _ hip] at hd
     have hi' : l.nb i = some b := hi
     obtain ⟨h1, h2⟩ := h.node i b d hi' hd
     have hbne : b ≠ bp := fun e => hip (h.inj i p b hi' (e ▸ hp))
     show Blk w' b _ (ndA d (upd l.kv p v' i)) ∧ w'.ownsRow 0 _ 1 (upd l.kv p v' i) _ _
     rw [upd_other _ _ hip]
     refine ⟨(hkeep b h1.lt hbne (fun e => h.node_row hi' hps e.symm rfl)).trans h1, row_same h2 fun r hr' => ?_⟩
     obtain ⟨cs, hc⟩ := row_type h2 hr'
     exact hkeep r hc.lt (fun e => h.node_row hp (j := i) (by rw [hi']; rfl) hr' e.symm) (fun e => hip (h.apart i p r (by rw [hi']; rfl) hps hr' e.symm))
 · have hi' : (l.nb i).isSome = true := hi
   have hj' : (l.nb j).isSome = true := hj
   have lt : ∀ k, (l.nb k).isSome = true → ∀ r, (l.kv k).ownBlock = some r → r < w.heap.size := fun k hk r hr => h.foot_lt (.inr (.inr (.inr ⟨k, hk, hr⟩)))
   have h1' : (upd l.kv p v' i).ownBlock = some b := h1
   have h2' : (upd l.kv p v' j).ownBlock = some b := h2
   by_cases hip : i = p
   · by_cases hjp : j = p
     · rw [hip, hjp]
     · subst hip
       rw [upd_same] at h1'
       rw [upd_other _ _ hjp] at h2'
       rcases hv b h1' with h3 | h3
       · exact h.apart i j b hi' hj' h3 h2'
       · have := lt j hj' b h2'; omega
   · rw [upd_other _ _ hip] at h1'
     by_cases hjp : j = p
     · subst hjp
       rw [upd_same] at h2'
       rcases hv b h2' with h3 | h3
       · exact h.apart i j b hi' hj' h1' h3
       · have := lt i hi' b h1'; omega
     · rw [upd_other _ _ hjp] at h2'
       exact h.apart i j b hi' hj' h1' h2'
theorem TreeH.put_turn (h : TreeH w t l nd made cnt) {p : Int} {bp : Nat} (hp : l.nb p = some bp) (v' : Value)
   (hos : w'.os = w.os ∧ w'.tape = w.tape ∧ w'.output = w.output ∧ w.heap.size ≤ w'.heap.size)
   (hkeep : ∀ i, i < w.heap.size → i ≠ bp → some i ≠ (l.kv p).ownBlock → w'.heap[i]? = w.heap[i]?) (hv : ∀ r, v'.ownBlock = some r → (l.kv p).ownBlock = some r ∨ w.heap.size ≤ r) :
   Turn (l.foot t) (({ l with kv := upd l.kv p v' } : Lay).foot t) w w' := by
 have hps : (l.nb p).isSome = true := by rw [hp]; rfl
 refine ⟨hos.1, hos.2.1, hos.2.2.1, hos.2.2.2, fun i hi hn => hkeep i hi (fun e => hn (.inr (.inr (.inl ⟨p, by rw [e]; exact hp⟩)))) (fun e => hn (.inr (.inr (.inr ⟨p, hps, e.symm⟩)))), fun i hi => ?_⟩
 rcases hi with rfl | rfl | ⟨j, hj⟩ | ⟨j, hj, hr⟩
 · exact .inl (.inl rfl)
 · exact .inl (.inr (.inl rfl))
 · exact .inl (.inr (.inr (.inl ⟨j, hj⟩)))
 · have hr' : (upd l.kv p v' j).ownBlock = some i := hr
   by_cases hjp : j = p
   · subst hjp
     rw [upd_same] at hr'
     rcases hv i hr' with h1 | h1
     · exact .inl (.inr (.inr (.inr ⟨j, hj, h1⟩)))
     · exact .inr h1
   · rw [upd_other _ _ hjp] at hr'
     exact .inl (.inr (.inr (.inr ⟨j, hj, hr'⟩)))
end
end Go.Proofs.YtnhchpiafchdgaaGreat
end
section
namespace Go.Proofs.YtnhchpiafchdgaaGreat
open Go.RowKit Go.Shelf Go.Maps
def NoTree (w : World) (p : Value) : Prop := p = .pointer none ∨ ∃ t, p = .pointer (some ⟨t, 0, none⟩) ∧ Blk w t 105 #[.map none, .int .i64 0]
abbrev treeP (t : Nat) : Value := .pointer (some ⟨t, 0, none⟩)
theorem NoTree.next {w w' : World} {p : Value} (h : NoTree w p) (hb : Below w.heap.size w w') : NoTree w' p := by
 rcases h with h | ⟨t, h, k⟩
 · exact .inl h
 · exact .inr ⟨t, h, k.next hb⟩
section
variable {w : World} {t : Nat} {l : Lay} {nd : Int → Option Nd} {made : Int} {cnt : Nat}
theorem find_c (h : TreeH w t l nd made cnt) {i : Int} (hi : I64 i) :
  Calls Tryz.prog 66 #[treeP t, .int .i64 i] w fun e w' => e = .returned (ptrOf (l.nb i)) ∧ w = w' := by
 obtain ⟨⟨c0, _⟩, _⟩ := h.tree.c2
 have e0 := h.look hi
 obtain ⟨v, hv⟩ : ∃ v, v = ptrOf (l.nb i) := ⟨_, rfl⟩
 rw [← hv] at e0 ⊢
 clear hv h hi
 go_enter Tryz.func66, Tryz.ntmps66
 go_wp2
 go_ret
 exact ⟨rfl, rfl⟩
theorem find_some (h : TreeH w t l nd made cnt) {i : Int} (hi : I64 i) {b : Nat} (hb : l.nb i = some b) :
  Calls Tryz.prog 66 #[treeP t, .int .i64 i] w fun e w' => e = .returned (.pointer (some ⟨b, 0, none⟩)) ∧ w = w' := by
 have := find_c h hi; rw [hb] at this; exact this
theorem find_none (h : TreeH w t l nd made cnt) {i : Int} (hi : I64 i) (hb : l.nb i = none) :
  Calls Tryz.prog 66 #[treeP t, .int .i64 i] w fun e w' => e = .returned (.pointer none) ∧ w = w' := by
 have := find_c h hi; rw [hb] at this; exact this
theorem i64_0 : I64 0 := ⟨by decide, by decide⟩
theorem changeable_none (h : TreeH w t l nd made cnt) {r : Nat} (h0 : l.nb 0 = some r) {i : Int} (hi : I64 i) (hb : l.nb i = none) :
  Calls Tryz.prog 103 #[treeP t, .int .i64 i] w fun e w' => e = .returned (.tuple #[.pointer none, .int .i64 6]) ∧ w = w' := by
 have H1 := Lib.hid (find_none h hi hb)
 have H2 := Lib.hid (find_some h i64_0 h0)
 clear h hi h0 hb
 go_enter Tryz.func103, Tryz.ntmps103
 go_wp2_with (first
  | (go_at_call 66; ((with_reducible refine H1.out.mono ?_); rintro e w' ⟨rfl, rfl⟩); clear H1)
  | (go_at_call 66; ((with_reducible refine H2.out.mono ?_); rintro e w' ⟨rfl, rfl⟩)))
 go_ret2
 exact ⟨rfl, rfl⟩
theorem changeable_root (h : TreeH w t l nd made cnt) {r : Nat} (h0 : l.nb 0 = some r) :
  Calls Tryz.prog 103 #[treeP t, .int .i64 0] w fun e w' => e = .returned (.tuple #[.pointer none, .int .i64 1]) ∧ w = w' := by
 have H1 := Lib.hid (find_some h i64_0 h0)
 have H2 := Lib.hid (find_some h i64_0 h0)
 clear h h0
 go_enter Tryz.func103, Tryz.ntmps103
 go_wp2_with (first
  | (go_at_call 66; ((with_reducible refine H1.out.mono ?_); rintro e w' ⟨rfl, rfl⟩); clear H1)
  | (go_at_call 66; ((with_reducible refine H2.out.mono ?_); rintro e w' ⟨rfl, rfl⟩)))
 go_ret2
 exact ⟨rfl, rfl⟩
theorem changeable_some (h : TreeH w t l nd made cnt) {r : Nat} (h0 : l.nb 0 = some r) {i : Int} (hi : I64 i) {b : Nat} (hb : l.nb i = some b) (hz : i ≠ 0) :
  Calls Tryz.prog 103 #[treeP t, .int .i64 i] w fun e w' => e = .returned (.tuple #[.pointer (some ⟨b, 0, none⟩), .int .i64 0]) ∧ w = w' := by
 have H1 := Lib.hid (find_some h hi hb)
 have H2 := Lib.hid (find_some h i64_0 h0)
 have hz' : (i == 0) = false := by simpa using hz
 clear h hi h0 hb hz
 go_enter Tryz.func103, Tryz.ntmps103
 go_wp2_with (first
  | (go_at_call 66; ((with_reducible refine H1.out.mono ?_); rintro e w' ⟨rfl, rfl⟩); clear H1)
  | (go_at_call 66; ((with_reducible refine H2.out.mono ?_); rintro e w' ⟨rfl, rfl⟩)))
 go_ret2
 exact ⟨rfl, rfl⟩
theorem len_c (h : TreeH w t l nd made cnt) {r : Nat} (h0 : l.nb 0 = some r) (hc : (cnt : Int) ≤ 4611686018427387904) :
  Calls Tryz.prog 118 #[treeP t] w fun e w' => e = .returned (.int .i64 ((cnt : Int) - 1)) ∧ w = w' := by
 have H2 := Lib.hid (find_some h i64_0 h0)
 obtain ⟨⟨c0, _⟩, _⟩ := h.tree.c2
 have e0 := fun ty => h.map.len ty
 clear h h0
 go_enter Tryz.func118, Tryz.ntmps118
 go_wp2_with (go_at_call 66; ((with_reducible refine H2.out.mono ?_); rintro e w' ⟨rfl, rfl⟩))
 go_ret
 exact ⟨rfl, rfl⟩
end
end Go.Proofs.YtnhchpiafchdgaaGreat
end
section
namespace Go.Proofs.YtnhchpiafchdgaaGreat
open Go.RowKit Go.Shelf Go.Maps
def TreeTo (w : World) (t : Nat) (l : Lay) (nb' : Int → Option Nat) (nd' : Int → Option Nd) (made' : Int) (cnt' : Nat) (w' : World) : Prop :=
 ∃ l', l'.nb = nb' ∧ TreeH w' t l' nd' made' cnt' ∧ Turn (l.foot t) (l'.foot t) w w'
section
variable {w w' w1 wa : World} {t : Nat} {l : Lay} {nd : Int → Option Nd} {made : Int} {cnt : Nat}
theorem kv_same (l : Lay) (p : Int) : ({ l with kv := upd l.kv p (l.kv p) } : Lay) = l := by
 rw [upd_self rfl]
theorem TreeH.cell (h : TreeH w t l nd made cnt) {p : Int} {bp : Nat} (hp : l.nb p = some bp) {d : Nd} (hd : nd p = some d) (k : Nat) (u : Value) (win' : Win) (hu : (ndA d (l.kv p)).setIfInBounds k u = ndA ⟨win', d.kids⟩ (l.kv p)) :
  TreeH (w.setCell ⟨bp, k, none⟩ u) t l (upd nd p (some ⟨win', d.kids⟩)) made cnt ∧ Turn (l.foot t) (l.foot t) w (w.setCell ⟨bp, k, none⟩ u) := by
 have hps : (l.nb p).isSome = true := by rw [hp]; rfl
 have hkeep : ∀ i, i < w.heap.size → i ≠ bp → some i ≠ (l.kv p).ownBlock → (w.setCell ⟨bp, k, none⟩ u).heap[i]? = w.heap[i]? := fun i _ hi _ => Below.heap_setCell w _ u i hi
 obtain ⟨h1, h2⟩ := h.node p bp d hp hd
 have hb := h1.set_ k u
 rw [hu] at hb
 have hr : (w.setCell ⟨bp, k, none⟩ u).ownsRow 0 3 1 (l.kv p) d.kids.length (intsV d.kids) := row_same h2 fun r hr => Below.heap_setCell w _ u r (fun e => h.node_row hp hps hr e.symm)
 have ht := h.put hp ⟨win', d.kids⟩ (l.kv p) hkeep hb hr (fun r hr => .inl hr)
 have hT := h.put_turn (w' := w.setCell ⟨bp, k, none⟩ u) hp (l.kv p) ⟨rfl, rfl, rfl, by simp [World.setCell]⟩ hkeep (fun r hr => .inl hr)
 rw [kv_same] at ht hT
 exact ⟨ht, hT⟩
theorem TreeH.grow (h : TreeH w t l nd made cnt) {p : Int} {bp : Nat} (hp : l.nb p = some bp) {d : Nd} (hd : nd p = some d) (hb : Below w.heap.size w wa) (hg : wa.grownBy w1 (l.kv p).ownBlock) {v' : Value} {ks : List Int}
   (ho : w1.ownsRow 0 3 1 v' ks.length (intsV ks)) (hv : ∀ r, v'.ownBlock = some r → (l.kv p).ownBlock = some r ∨ w.heap.size ≤ r) :
   TreeH (w1.setCell ⟨bp, 7, none⟩ v') t { l with kv := upd l.kv p v' } (upd nd p (some ⟨d.win, ks⟩)) made cnt ∧ Turn (l.foot t) (({ l with kv := upd l.kv p v' } : Lay).foot t) w (w1.setCell ⟨bp, 7, none⟩ v') := by
 have hps : (l.nb p).isSome = true := by rw [hp]; rfl
 obtain ⟨h1, h2⟩ := h.node p bp d hp hd
 have hlt := h1.lt
 have hkeep1 : ∀ i, i < w.heap.size → some i ≠ (l.kv p).ownBlock → w1.heap[i]? = w.heap[i]? := fun i hi hn => (hg.block i (Nat.lt_of_lt_of_le hi hb.size) hn).trans (hb.block i hi)
 have hkeep : ∀ i, i < w.heap.size → i ≠ bp → some i ≠ (l.kv p).ownBlock → (w1.setCell ⟨bp, 7, none⟩ v').heap[i]? = w.heap[i]? := fun i hi hne hn => (Below.heap_setCell w1 _ v' i hne).trans (hkeep1 i hi hn)
 have hbk : Blk w1 bp 102 (ndA d (l.kv p)) := (hkeep1 bp hlt (fun e => h.node_row hp hps e.symm rfl)).trans h1
 have hb2 : Blk (w1.setCell ⟨bp, 7, none⟩ v') bp 102 (ndA ⟨d.win, ks⟩ v') := hbk.set_ 7 v'
 have hr : (w1.setCell ⟨bp, 7, none⟩ v').ownsRow 0 3 1 v' ks.length (intsV ks) := row_same ho fun r hr => Below.heap_setCell w1 _ v' r (fun e => by
   rcases hv r hr with h3 | h3
   · exact h.node_row hp hps h3 e.symm
   · dsimp only at e; omega)
 refine ⟨h.put hp ⟨d.win, ks⟩ v' hkeep hb2 hr hv, h.put_turn hp v' ⟨?_, ?_, ?_, ?_⟩ hkeep hv⟩
 · exact hg.os.trans hb.os
 · exact hg.tape.trans hb.tape
 · exact hg.output.trans hb.output
 · have := hg.size; have := hb.size; simp [World.setCell]; omega
theorem TreeH.cells (h : TreeH w t l nd made cnt) {p : Int} {bp : Nat} (hp : l.nb p = some bp) {d : Nd} (hd : nd p = some d) :
  (w.cell? ⟨bp, 0, none⟩ = some (.int .i64 d.win.id) ∧ w.cell? ⟨bp, 1, none⟩ = some (.int .i64 d.win.par) ∧ w.cell? ⟨bp, 2, none⟩ = some (.int .i64 d.win.x) ∧ w.cell? ⟨bp, 3, none⟩ = some (.int .i64 d.win.y) ∧
   w.cell? ⟨bp, 4, none⟩ = some (.int .i64 d.win.w) ∧ w.cell? ⟨bp, 5, none⟩ = some (.int .i64 d.win.h) ∧ w.cell? ⟨bp, 6, none⟩ = some (.bool d.win.on) ∧ w.cell? ⟨bp, 7, none⟩ = some (l.kv p)) ∧ ∀ k, w.frozen? ⟨bp, k, none⟩ = false := by
 obtain ⟨h1, _⟩ := h.node p bp d hp hd
 exact ⟨⟨h1.at_ (i := 0) rfl, h1.at_ (i := 1) rfl, h1.at_ (i := 2) rfl, h1.at_ (i := 3) rfl, h1.at_ (i := 4) rfl, h1.at_ (i := 5) rfl, h1.at_ (i := 6) rfl, h1.at_ (i := 7) rfl⟩, fun k => h1.frozen k⟩
end
end Go.Proofs.YtnhchpiafchdgaaGreat
end
section
namespace Go.Proofs.YtnhchpiafchdgaaGreat
open Go.RowKit Go.Shelf Go.Maps
theorem intInfoW : (Tryz.prog.info? 3).map (fun i => (i.zero, i.size, i.bytes)) = some (some (.int .i64 0), 1, 8) := by kernel_rfl
section
variable {w : World} {t : Nat} {l : Lay} {nd : Int → Option Nd} {made : Int} {cnt : Nat}
theorem past {w1 : World} (h : TreeH w t l nd made cnt) {p c : Int} {bp bc : Nat} {d : Nd} (hp : l.nb p = some bp) (hg : w.grownBy w1 (l.kv p).ownBlock) (hc : l.nb c = some bc) (hd : nd c = some d) : Blk w1 bc 102 (ndA d (l.kv c)) := by
 have h1 := (h.node c bc d hc hd).1
 exact (hg.block bc h1.lt (fun e => h.node_row hc (j := p) (by rw [hp]; rfl) e.symm rfl)).trans h1
set_option maxRecDepth 100000 in
set_option maxHeartbeats 4000000 in
theorem enter_c (h : TreeH w t l nd made cnt) {p c : Int} {bp bc : Nat} {dp dc : Nd} (hp : l.nb p = some bp) (hc : l.nb c = some bc) (hdp : nd p = some dp) (hdc : nd c = some dc) (hpc : p ≠ c) (hi : I64 p) (hk : dp.kids.length ≤ 4096) :
  Calls Tryz.prog 106 #[treeP t, .pointer (some ⟨bc, 0, none⟩), .int .i64 p] w fun e w' => e = .returned (.tuple #[]) ∧ TreeTo w t l l.nb (upd (upd nd p (some ⟨dp.win, dp.kids ++ [dc.win.id]⟩)) c (some ⟨{ dc.win with par := p }, dc.kids⟩)) made cnt w' := by
 obtain ⟨i0, hi0, hz0, hz1, hz2⟩ := info_parts intInfoW
 obtain ⟨⟨c0, _⟩, _⟩ := h.tree.c2
 have e0 := h.look_some hi hp
 have e1 : ∀ W : World, TreeH W t l nd made cnt → W.cell? ⟨bp, 7, none⟩ = some (l.kv p) ∧ W.cell? ⟨bc, 0, none⟩ = some (.int .i64 dc.win.id) := fun W hW => ⟨(hW.cells hp hdp).1.2.2.2.2.2.2.2, (hW.cells hc hdc).1.1⟩
 have e2 : ∀ W : World, TreeH W t l nd made cnt → W.ownsRow 0 3 1 (l.kv p) dp.kids.length (intsV dp.kids) := fun W hW => (hW.node p bp dp hp hdp).2
 have HC := Lib.hid e1
 have HR := Lib.hid e2
 have hF := (h.cells hp hdp).2
 clear e1 e2
 obtain ⟨kv, hkv⟩ : ∃ v, v = l.kv p := ⟨_, rfl⟩
 obtain ⟨ident, hid⟩ : ∃ v, v = dc.win.id := ⟨_, rfl⟩
 rw [← hkv] at HR
 rw [← hkv, ← hid] at HC
 rw [← hid]
 have HI := Lib.hid hid
 have HV := Lib.hid hkv
 have HK := Lib.hid (fun (W : World) (hg : (w.alloc (.cells #[.int .i64 ident] 3)).drew.grownBy W kv.ownBlock) => (show W.cell? ⟨bp, 7, none⟩ = some kv ∧ W.cell? ⟨bc, 0, none⟩ = some (.int .i64 ident) ∧ W.frozen? ⟨bp, 7, none⟩ = false from by
  have k1 := past (h.alloc (.cells #[.int .i64 ident] 3)).drew hp (hkv ▸ hg) hp hdp
  have k2 := past (h.alloc (.cells #[.int .i64 ident] 3)).drew hp (hkv ▸ hg) hc hdc
  rw [hkv, hid]
  exact ⟨k1.at_ (i := 7) rfl, k2.at_ (i := 0) rfl, k1.frozen 7⟩))
 have HG := Lib.hid (fun (W : World) (g' cap' : Nat) (ho : W.ownsRow 0 3 1 (.slice (some ⟨g', 0, none⟩) (dp.kids.length + 1) cap') (dp.kids.length + 1) (intsV dp.kids ++ [.int .i64 ident])) (hg : (w.alloc (.cells #[.int .i64 ident] 3)).drew.grownBy W kv.ownBlock)
   (hgg : kv.ownBlock = some g' ∨ g' = (w.alloc (.cells #[.int .i64 ident] 3)).drew.heap.size) => (show (TreeH (W.setCell ⟨bp, 7, none⟩ (.slice (some ⟨g', 0, none⟩) (dp.kids.length + 1) cap')) t { l with kv := upd l.kv p (.slice (some ⟨g', 0, none⟩) (dp.kids.length + 1) cap') } (upd nd p (some ⟨dp.win, dp.kids ++ [ident]⟩)) made cnt ∧
     Turn (l.foot t) (({ l with kv := upd l.kv p (.slice (some ⟨g', 0, none⟩) (dp.kids.length + 1) cap') } : Lay).foot t) w (W.setCell ⟨bp, 7, none⟩ (.slice (some ⟨g', 0, none⟩) (dp.kids.length + 1) cap'))) ∧
     (W.setCell ⟨bp, 7, none⟩ (.slice (some ⟨g', 0, none⟩) (dp.kids.length + 1) cap')).cell? ⟨bc, 1, none⟩ = some (.int .i64 dc.win.par) ∧ (W.setCell ⟨bp, 7, none⟩ (.slice (some ⟨g', 0, none⟩) (dp.kids.length + 1) cap')).frozen? ⟨bc, 1, none⟩ = false from by
  have k1 := h.grow hp hdp (wa := (w.alloc (.cells #[.int .i64 ident] 3)).drew) ((Below.refl _ w).alloc (Nat.le_refl _) _).drew (hkv ▸ hg) (v' := .slice (some ⟨g', 0, none⟩) (dp.kids.length + 1) cap') (ks := dp.kids ++ [ident]) (by
   unfold intsV at ho ⊢; rw [List.length_append, List.map_append]; exact ho) (fun r hr => by
   obtain rfl : g' = r := by simpa [Value.ownBlock] using hr
   rcases hgg with e | e
   · exact .inl (hkv ▸ e)
   · exact .inr (by rw [e]; simp))
  obtain ⟨⟨-, k2, -⟩, k3⟩ := k1.1.cells (p := c) hc (by rw [upd_other _ _ (Ne.symm hpc)]; exact hdc)
  exact ⟨k1, k2, k3 1⟩))
 clear hid hkv
 have h0 := h
 obtain ⟨⟨a0, -, -, -, -, -, -, a7⟩, af⟩ := h.cells hp hdp
 obtain ⟨⟨b0, -⟩, -⟩ := h.cells hc hdc
 rw [HV.out.symm] at a7
 rw [HI.out.symm] at b0
 clear a0
 have h1 : TreeH (w.alloc (.cells #[.int .i64 ident] 3)).drew t l nd made cnt := (h.alloc _).drew
 obtain ⟨a1, b1⟩ := HC.out _ h1
 have bl : bp < w.heap.size := World.block_lt_of_cell? _ _ a7
 go_enter Tryz.func106, Tryz.ntmps106
 go_upto_region 1 with fail
 go_region_law ((refine step_append_lies _ rfl (.tmp 17) (.tmp 23) 67 rfl 0 3 i0 (.int .i64 0) 1 8 Tryz.underlying67 hi0 hz0 hz1 hz2 rfl (by decide) _ _ _ rfl (HR.out _ h1) ⟨_, 0, none⟩ 1 1 [.int .i64 ident] rfl rfl (fun j' u' hu' => cell_list_at _ _ [.int .i64 ident] _ rfl j' u' hu') (oneCell_ints [ident]) (by decide) (by unfold maxLen; omega) (by omega) (Nat.zero_le _) _ rfl ?_; intro g' cap' w7 ho hg' hgg _; obtain ⟨q1, q2, q3⟩ := HK.out w7 hg'; obtain ⟨T8, q4, q5⟩ := HG.out w7 g' cap' ho hg' hgg; have HT := Lib.hid T8; clear T8))
 all_goals
  generalize w7.setCell ⟨bp, 7, none⟩ (.slice (some ⟨g', 0, none⟩) (dp.kids.length + 1) cap') = W8 at q4 q5 HT ⊢
  go_wp2_with fail
  go_end0
  obtain ⟨T1, U1⟩ := HT.out
  obtain ⟨T2, U2⟩ := T1.cell (p := c) hc (d := dc) (by rw [upd_other _ _ (Ne.symm hpc)]; exact hdc) 1 (.int .i64 p) { dc.win with par := p } rfl
  refine ⟨rfl, _, ?_, T2, U1.trans U2⟩
  rfl
end
end Go.Proofs.YtnhchpiafchdgaaGreat
end
