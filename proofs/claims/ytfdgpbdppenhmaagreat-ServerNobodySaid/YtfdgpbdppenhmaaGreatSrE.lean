/- A display in memory. -/
import Derived.Test.YtfdgpbdppenhmaaGreatSrD
namespace Go.Proofs.YtfdgpbdppenhmaaGreat
open Go.RowKit Go.Shelf Go.Maps
/-- How a display lies. -/
structure Yl where
  t : Nat
  l : Lay
  tl : Pp.Tl
  mp : Nat
  sp : Nat
  wv : Value
def Yl.foot (Y : Yl) (s : Nat) : Nat → Prop := fun b => b = s ∨ Y.l.foot Y.t b ∨ Y.tl.foot b ∨ b = Y.mp ∨ b = Y.sp ∨ Y.wv.ownBlock = some b
def encE (e : Ev) : List Value := [.int .i64 e.kind, .int .i64 e.win, .int .i64 e.x, .int .i64 e.y, .int .i64 e.a, .int .i64 e.e, .string e.name]
theorem encE_len (e : Ev) : (encE e).length = 7 := rfl
abbrev srvA (Y : Yl) (X : Xs) : Array Value := #[treeP Y.t, Pp.tabP Y.tl.t, .map (some Y.mp), .map (some Y.sp), Y.wv, .int .i64 X.F, .bool X.G]
abbrev srvP (s : Nat) : Value := .pointer (some ⟨s, 0, none⟩)
def makF (M : List Md) : Int → Option Int := fun i => (findM i M).map (·.own)
def savF (M : List Md) : Int → Option Unit := fun i => if savM i M = true then some () else none
/-- Its parts, whatever its own block holds. -/
structure SrvR (col : Nat → Nat) (w : World) (s : Nat) (A : Array Value) (Y : Yl) (X : Xs) (f : Int → Option Int) (g : Int → Option Unit) (k : Nat) : Prop where
  srv : Blk w s 80 A
  tree : TB w Y.t Y.l X.R X.L
  tab : Pp.TT w Y.tl X.H k
  mak : ∃ n, n ≤ k ∧ MapG eltN 0 w Y.mp f n
  sav : ∃ n, n ≤ k ∧ MapG eltU () w Y.sp g n
  row : OwK encE 71 7 w 0 Y.wv X.E
  c0 : InC w col 0 (fun b => b = s)
  c1 : InC w col 1 (Y.l.foot Y.t)
  c2 : InC w col 2 Y.tl.foot
  c3 : InC w col 3 (fun b => b = Y.mp)
  c4 : InC w col 4 (fun b => b = Y.sp)
  c5 : InC w col 5 (fun b => Y.wv.ownBlock = some b)
/-- A display in memory, as the abstract one is. -/
def Srv (w : World) (s : Nat) (Y : Yl) (X : Xs) (k : Nat) : Prop := ∃ col, SrvR col w s (srvA Y X) Y X (makF X.M) (savF X.M) k
/-- What a call leaves. -/
def SrvTo (w : World) (s : Nat) (Y : Yl) (X' : Xs) (k' : Nat) (w' : World) : Prop := ∃ Y', Srv w' s Y' X' k' ∧ Turn (Y.foot s) (Y'.foot s) w w'
theorem Turn.wide {F F' G G' : Nat → Prop} {w w' : World} (h : Turn F F' w w') (hF : ∀ b, F b → G b) (hG : ∀ b, G' b → F' b ∨ G b) : Turn G G' w w' :=
  ⟨h.os, h.tape, h.output, h.size, fun i hi hn => h.block i hi (fun hf => hn (hF i hf)), fun i hi => by
    rcases hG i hi with h1 | h1
    · rcases h.foot i h1 with h2 | h2
      · exact .inl (hF i h2)
      · exact .inr h2
    · exact .inl h1⟩
theorem row_kept {α : Type} {enc : α → List Value} {T : TypeId} {k : Nat} {w w' : World} {B : Nat} {v : Value} {xs : List α} (h : OwK enc T k w B v xs) (hs : ∀ b, v.ownBlock = some b → w'.heap[b]? = w.heap[b]?) : OwK enc T k w' B v xs := by
  obtain ⟨h0, h1⟩ := h
  refine ⟨h0, ?_⟩
  rcases h1 with h1 | ⟨g, cap, cur, rfl, h2, h3, h4⟩
  · exact .inl h1
  · exact .inr ⟨g, cap, cur, rfl, h2, (hs g rfl).trans h3, h4⟩
section
variable {col : Nat → Nat} {w w' w1 : World} {s : Nat} {A : Array Value} {Y : Yl} {X : Xs} {f f' : Int → Option Int} {g g' : Int → Option Unit} {k k' : Nat}
theorem SrvR.foot_lt (h : SrvR col w s A Y X f g k) {b : Nat} (hb : Y.foot s b) : b < w.heap.size := by
  rcases hb with hb | hb | hb | hb | hb | hb
  · exact (h.c0 b hb).1
  · exact (h.c1 b hb).1
  · exact (h.c2 b hb).1
  · exact (h.c3 b hb).1
  · exact (h.c4 b hb).1
  · exact (h.c5 b hb).1
theorem SrvR.kept (h : SrvR col w s A Y X f g k) (hs : w.heap.size ≤ w'.heap.size) (hk : ∀ b, Y.foot s b → w'.heap[b]? = w.heap[b]?) : SrvR (paintC w col 9) w' s A Y X f g k := by
  obtain ⟨n, hn, hm⟩ := h.mak
  obtain ⟨n', hn', hm'⟩ := h.sav
  exact ⟨(hk s (.inl rfl)).trans h.srv, h.tree.kept fun b hb => hk b (.inr (.inl hb)), h.tab.kept fun b hb => hk b (.inr (.inr (.inl hb))), ⟨n, hn, hm.same (hk Y.mp (.inr (.inr (.inr (.inl rfl)))))⟩, ⟨n', hn', hm'.same (hk Y.sp (.inr (.inr (.inr (.inr (.inl rfl))))))⟩,
    row_kept h.row fun b hb => hk b (.inr (.inr (.inr (.inr (.inr hb))))), h.c0.stay hs, h.c1.stay hs, h.c2.stay hs, h.c3.stay hs, h.c4.stay hs, h.c5.stay hs⟩
theorem SrvR.next (h : SrvR col w s A Y X f g k) (hb : Below w.heap.size w w') : SrvR (paintC w col 9) w' s A Y X f g k := h.kept hb.size fun b hf => hb.block b (h.foot_lt hf)
theorem SrvR.more (h : SrvR col w s A Y X f g k) (hk : k ≤ k') : SrvR col w s A Y X f g k' := by
  obtain ⟨n, hn, hm⟩ := h.mak
  obtain ⟨n', hn', hm'⟩ := h.sav
  exact ⟨h.srv, h.tree, h.tab.more hk, ⟨n, Nat.le_trans hn hk, hm⟩, ⟨n', Nat.le_trans hn' hk, hm'⟩, h.row, h.c0, h.c1, h.c2, h.c3, h.c4, h.c5⟩
/-- What is no part of the parts may be told otherwise. -/
theorem SrvR.as (h : SrvR col w s A Y X f g k) {X' : Xs} (a1 : X'.R = X.R) (a2 : X'.L = X.L) (a3 : X'.H = X.H) (a4 : X'.E = X.E) : SrvR col w s A Y X' f g k := by
  obtain ⟨R', L', H', M', F', G', E'⟩ := X'
  dsimp only at a1 a2 a3 a4
  subst a1 a2 a3 a4
  exact ⟨h.srv, h.tree, h.tab, h.mak, h.sav, h.row, h.c0, h.c1, h.c2, h.c3, h.c4, h.c5⟩
/-- The tree turned. -/
theorem SrvR.treed (h : SrvR col w s A Y X f g k) {R' : RT} {L' : List Win} (hc : CT R' L' Y.t Y.l w w') : ∃ l', SrvR (paintC w col 1) w' s A { Y with l := l' } { X with R := R', L := L' } f g k ∧ Turn (Y.foot s) (({ Y with l := l' } : Yl).foot s) w w' := by
  obtain ⟨l', h1, h2⟩ := hc
  obtain ⟨n, hn, hm⟩ := h.mak
  obtain ⟨n', hn', hm'⟩ := h.sav
  refine ⟨l', ⟨(h.c0.block h.c1 (by decide) h2 rfl).trans h.srv, h1, h.tab.kept fun b hb => h.c2.block h.c1 (by decide) h2 hb, ⟨n, hn, hm.same (h.c3.block h.c1 (by decide) h2 rfl)⟩, ⟨n', hn', hm'.same (h.c4.block h.c1 (by decide) h2 rfl)⟩,
    row_kept h.row fun b hb => h.c5.block h.c1 (by decide) h2 hb, h.c0.stay h2.size, h.c1.turn h2 (fun b hb => h1.foot_lt hb), h.c2.stay h2.size, h.c3.stay h2.size, h.c4.stay h2.size, h.c5.stay h2.size⟩, h2.wide (fun b hb => .inr (.inl hb)) (fun b hb => ?_)⟩
  rcases hb with hb | hb | hb
  · exact .inr (.inl hb)
  · exact .inl hb
  · exact .inr (.inr (.inr hb))
/-- The table turned. -/
theorem SrvR.tabled (h : SrvR col w s A Y X f g k) (hk : k ≤ k') {tl' : Pp.Tl} {H' : List Pp.Hd} (h1 : Pp.TT w' tl' H' k') (h2 : Turn Y.tl.foot tl'.foot w w') : SrvR (paintC w col 2) w' s A { Y with tl := tl' } { X with H := H' } f g k' ∧ Turn (Y.foot s) (({ Y with tl := tl' } : Yl).foot s) w w' := by
  obtain ⟨n, hn, hm⟩ := h.mak
  obtain ⟨n', hn', hm'⟩ := h.sav
  refine ⟨⟨(h.c0.block h.c2 (by decide) h2 rfl).trans h.srv, h.tree.kept fun b hb => h.c1.block h.c2 (by decide) h2 hb, h1, ⟨n, Nat.le_trans hn hk, hm.same (h.c3.block h.c2 (by decide) h2 rfl)⟩, ⟨n', Nat.le_trans hn' hk, hm'.same (h.c4.block h.c2 (by decide) h2 rfl)⟩,
    row_kept h.row fun b hb => h.c5.block h.c2 (by decide) h2 hb, h.c0.stay h2.size, h.c1.stay h2.size, h.c2.turn h2 (fun b hb => h1.lt hb), h.c3.stay h2.size, h.c4.stay h2.size, h.c5.stay h2.size⟩, h2.wide (fun b hb => .inr (.inr (.inl hb))) (fun b hb => ?_)⟩
  rcases hb with hb | hb | hb | hb
  · exact .inr (.inl hb)
  · exact .inr (.inr (.inl hb))
  · exact .inl hb
  · exact .inr (.inr (.inr (.inr hb)))
/-- One block turned, of which a component consists. -/
theorem turn_one {b : Nat} (hg : w.grownBy w' (some b)) : Turn (fun c => c = b) (fun c => c = b) w w' :=
  ⟨hg.os, hg.tape, hg.output, hg.size, fun i hi hn => hg.block i hi (fun e => hn (by injection e)), fun i hi => .inl hi⟩
theorem SrvR.makers (h : SrvR col w s A Y X f g k) (hk : k ≤ k') {n : Nat} (hn : n ≤ k') (h1 : MapG eltN 0 w' Y.mp f' n) (hg : w.grownBy w' (some Y.mp)) : SrvR (paintC w col 3) w' s A Y X f' g k' ∧ Turn (Y.foot s) (Y.foot s) w w' := by
  have h2 := turn_one hg
  obtain ⟨n', hn', hm'⟩ := h.sav
  exact ⟨⟨(h.c0.block h.c3 (by decide) h2 rfl).trans h.srv, h.tree.kept fun b hb => h.c1.block h.c3 (by decide) h2 hb, (h.tab.kept fun b hb => h.c2.block h.c3 (by decide) h2 hb).more hk, ⟨n, hn, h1⟩, ⟨n', Nat.le_trans hn' hk, hm'.same (h.c4.block h.c3 (by decide) h2 rfl)⟩,
    row_kept h.row fun b hb => h.c5.block h.c3 (by decide) h2 hb, h.c0.stay h2.size, h.c1.stay h2.size, h.c2.stay h2.size, h.c3.turn h2 (fun b hb => by rw [hb]; exact h1.lt), h.c4.stay h2.size, h.c5.stay h2.size⟩, h2.wide (fun b hb => .inr (.inr (.inr (.inl hb)))) (fun b hb => .inr hb)⟩
theorem SrvR.saved (h : SrvR col w s A Y X f g k) (hk : k ≤ k') {n : Nat} (hn : n ≤ k') (h1 : MapG eltU () w' Y.sp g' n) (hg : w.grownBy w' (some Y.sp)) : SrvR (paintC w col 4) w' s A Y X f g' k' ∧ Turn (Y.foot s) (Y.foot s) w w' := by
  have h2 := turn_one hg
  obtain ⟨n', hn', hm'⟩ := h.mak
  exact ⟨⟨(h.c0.block h.c4 (by decide) h2 rfl).trans h.srv, h.tree.kept fun b hb => h.c1.block h.c4 (by decide) h2 hb, (h.tab.kept fun b hb => h.c2.block h.c4 (by decide) h2 hb).more hk, ⟨n', Nat.le_trans hn' hk, hm'.same (h.c3.block h.c4 (by decide) h2 rfl)⟩, ⟨n, hn, h1⟩,
    row_kept h.row fun b hb => h.c5.block h.c4 (by decide) h2 hb, h.c0.stay h2.size, h.c1.stay h2.size, h.c2.stay h2.size, h.c3.stay h2.size, h.c4.turn h2 (fun b hb => by rw [hb]; exact h1.lt), h.c5.stay h2.size⟩, h2.wide (fun b hb => .inr (.inr (.inr (.inr (.inl hb))))) (fun b hb => .inr hb)⟩
/-- The events that wait turned. -/
theorem SrvR.rowed (h : SrvR col w s A Y X f g k) {v' : Value} {E' : List Ev} (hb : Below w.heap.size w w1) (hg : w1.grownBy w' Y.wv.ownBlock) (ho : OwK encE 71 7 w' 0 v' E') (hv : ∀ r, v'.ownBlock = some r → Y.wv.ownBlock = some r ∨ w.heap.size ≤ r) : SrvR (paintC w col 5) w' s A { Y with wv := v' } { X with E := E' } f g k ∧ Turn (Y.foot s) (({ Y with wv := v' } : Yl).foot s) w w' := by
  have h2 : Turn (fun b => Y.wv.ownBlock = some b) (fun b => v'.ownBlock = some b) w w' := ⟨hg.os.trans hb.os, hg.tape.trans hb.tape, hg.output.trans hb.output, Nat.le_trans hb.size hg.size, fun i hi hn => (hg.block i (Nat.lt_of_lt_of_le hi hb.size) (fun e => hn e.symm)).trans (hb.block i hi), fun i hi => hv i hi⟩
  obtain ⟨n, hn, hm⟩ := h.mak
  obtain ⟨n', hn', hm'⟩ := h.sav
  refine ⟨⟨(h.c0.block h.c5 (by decide) h2 rfl).trans h.srv, h.tree.kept fun b hb => h.c1.block h.c5 (by decide) h2 hb, h.tab.kept fun b hb => h.c2.block h.c5 (by decide) h2 hb, ⟨n, hn, hm.same (h.c3.block h.c5 (by decide) h2 rfl)⟩, ⟨n', hn', hm'.same (h.c4.block h.c5 (by decide) h2 rfl)⟩, ho,
    h.c0.stay h2.size, h.c1.stay h2.size, h.c2.stay h2.size, h.c3.stay h2.size, h.c4.stay h2.size, h.c5.turn h2 (fun b hb => (OwK.lt ho hb).2)⟩, h2.wide (fun b hb => .inr (.inr (.inr (.inr (.inr hb))))) (fun b hb => ?_)⟩
  rcases hb with hb | hb | hb | hb | hb | hb
  · exact .inr (.inl hb)
  · exact .inr (.inr (.inl hb))
  · exact .inr (.inr (.inr (.inl hb)))
  · exact .inr (.inr (.inr (.inr (.inl hb))))
  · exact .inr (.inr (.inr (.inr (.inr (.inl hb)))))
  · exact .inl hb
/-- A cell of the display's own block turned. -/
theorem SrvR.cell (h : SrvR col w s A Y X f g k) (j : Nat) (u : Value) : SrvR (paintC w col 0) (w.setCell ⟨s, j, none⟩ u) s (A.setIfInBounds j u) Y X f g k ∧ Turn (Y.foot s) (Y.foot s) w (w.setCell ⟨s, j, none⟩ u) := by
  have h2 : Turn (fun b => b = s) (fun b => b = s) w (w.setCell ⟨s, j, none⟩ u) := ⟨rfl, rfl, rfl, by simp [World.setCell], fun i _ hn => Below.heap_setCell w _ u i hn, fun i hi => .inl hi⟩
  obtain ⟨n, hn, hm⟩ := h.mak
  obtain ⟨n', hn', hm'⟩ := h.sav
  exact ⟨⟨h.srv.set_ j u, h.tree.kept fun b hb => h.c1.block h.c0 (by decide) h2 hb, h.tab.kept fun b hb => h.c2.block h.c0 (by decide) h2 hb, ⟨n, hn, hm.same (h.c3.block h.c0 (by decide) h2 rfl)⟩, ⟨n', hn', hm'.same (h.c4.block h.c0 (by decide) h2 rfl)⟩,
    row_kept h.row fun b hb => h.c5.block h.c0 (by decide) h2 hb, h.c0.turn h2 (fun b hb => by rw [hb]; exact (h.srv.set_ j u).lt), h.c1.stay h2.size, h.c2.stay h2.size, h.c3.stay h2.size, h.c4.stay h2.size, h.c5.stay h2.size⟩, h2.wide (fun b hb => .inl hb) (fun b hb => .inr hb)⟩
theorem Srv.next (h : Srv w s Y X k) (hb : Below w.heap.size w w') : Srv w' s Y X k := by
  obtain ⟨col, h⟩ := h
  exact ⟨_, h.next hb⟩
theorem Srv.more (h : Srv w s Y X k) (hk : k ≤ k') : Srv w s Y X k' := by
  obtain ⟨col, h⟩ := h
  exact ⟨_, h.more hk⟩
theorem Srv.blk (h : Srv w s Y X k) : Blk w s 80 (srvA Y X) := by
  obtain ⟨col, h⟩ := h
  exact h.srv
theorem Srv.tree (h : Srv w s Y X k) : TB w Y.t Y.l X.R X.L := by
  obtain ⟨col, h⟩ := h
  exact h.tree
theorem Srv.foot_lt (h : Srv w s Y X k) {b : Nat} (hb : Y.foot s b) : b < w.heap.size := by
  obtain ⟨col, h⟩ := h
  exact h.foot_lt hb
theorem SrvTo.same (h : Srv w s Y X k) (hb : Below w.heap.size w w') : SrvTo w s Y X k w' := ⟨Y, h.next hb, Turn.of_below hb⟩
theorem SrvTo.trans {Y1 : Yl} {X' : Xs} (h : Turn (Y.foot s) (Y1.foot s) w w1) (k : SrvTo w1 s Y1 X' k' w') : SrvTo w s Y X' k' w' := by
  obtain ⟨Y', h1, h2⟩ := k
  exact ⟨Y', h1, h.trans h2⟩
theorem SrvTo.after {X' : Xs} (hb : Below w.heap.size w w1) (k : SrvTo w1 s Y X' k' w') : SrvTo w s Y X' k' w' := SrvTo.trans (Turn.of_below hb) k
theorem SrvTo.then {X' : Xs} (h : SrvTo w s Y X' k' w1) (hb : Below w1.heap.size w1 w') : SrvTo w s Y X' k' w' := by
  obtain ⟨Y', h1, h2⟩ := h
  exact ⟨Y', h1.next hb, h2.then_below hb⟩
end
end Go.Proofs.YtfdgpbdppenhmaaGreat
