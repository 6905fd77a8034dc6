/- Texts SrE SrF SrG SrV. -/
import Derived.Test.YtnhchpiafchdgaaGreatTap
import Derived.BigQuiet
import Derived.Deep.QuietTactic
import Derived.Deep.AppendLies
import Derived.Deep.RegionHeld3
import Derived.Deep.RegionLaw
import Derived.Deep.DeepCutAuto
import Derived.Test.YtnhchpiafchdgaaGreatTaa
namespace Go.Proofs.YtnhchpiafchdgaaGreat
open Go.RowKit Go.Shelf Go.Maps
structure Yl where
 t : Nat
 l : Lay
 tl : Pp.Tl
 mp : Nat
 sp : Nat
 wv : Value
def Yl.foot (Y : Yl) (s : Nat) : Nat → Prop := fun b => b = s ∨ Y.l.foot Y.t b ∨ Y.tl.foot b ∨ b = Y.mp ∨ b = Y.sp ∨ Y.wv.ownBlock = some b
def encE (e : Ev) : List Value := [.int .i64 e.kind, .int .i64 e.win, .int .i64 e.x, .int .i64 e.y, .int .i64 e.a, .int .i64 e.e, .string e.name]
theorem encE_len (e : Ev) : (encE e).length = 7 := rfl
abbrev srvA (Y : Yl) (X : Xs) : Array Value := #[treeP Y.t, Pp.tabP Y.tl.t, .map (some Y.mp), .map (some Y.sp), Y.wv, .int .i64 X.F, .bool X.G]
abbrev srvP (s : Nat) : Value := .pointer (some ⟨s, 0, none⟩)
def makF (M : List Md) : Int → Option Int := fun i => (findM i M).map (·.own)
def savF (M : List Md) : Int → Option Unit := fun i => if savM i M = true then some () else none
structure SrvR (col : Nat → Nat) (w : World) (s : Nat) (A : Array Value) (Y : Yl) (X : Xs) (f : Int → Option Int) (g : Int → Option Unit) (k : Nat) : Prop where
 srv : Blk w s 80 A
 tree : TB w Y.t Y.l X.R X.L
 tab : Pp.TT w Y.tl X.H k
 mak : ∃ n, n ≤ k ∧ MapG eltN 0 w Y.mp f n
 sav : ∃ n, n ≤ k ∧ MapG eltU () w Y.sp g n
 row : OwK encE 71 7 w 0 Y.wv X.E
 c0 : InC w col 0 (fun b => b = s)
 c1 : InC w col 1 (Y.l.foot Y.t)
 c2 : InC w col 2 Y.tl.foot
 c3 : InC w col 3 (fun b => b = Y.mp)
 c4 : InC w col 4 (fun b => b = Y.sp)
 c5 : InC w col 5 (fun b => Y.wv.ownBlock = some b)
def Srv (w : World) (s : Nat) (Y : Yl) (X : Xs) (k : Nat) : Prop := ∃ col, SrvR col w s (srvA Y X) Y X (makF X.M) (savF X.M) k
def SrvTo (w : World) (s : Nat) (Y : Yl) (X' : Xs) (k' : Nat) (w' : World) : Prop := ∃ Y', Srv w' s Y' X' k' ∧ Turn (Y.foot s) (Y'.foot s) w w'
theorem Turn.wide {F F' G G' : Nat → Prop} {w w' : World} (h : Turn F F' w w') (hF : ∀ b, F b → G b) (hG : ∀ b, G' b → F' b ∨ G b) : Turn G G' w w' :=
 ⟨h.os, h.tape, h.output, h.size, fun i hi hn => h.block i hi (fun hf => hn (hF i hf)), fun i hi => by
  rcases hG i hi with h1 | h1
  · rcases h.foot i h1 with h2 | h2
    · exact .inl (hF i h2)
    · exact .inr h2
  · exact .inl h1⟩
theorem row_kept {α : Type} {enc : α → List Value} {T : TypeId} {k : Nat} {w w' : World} {B : Nat} {v : Value} {xs : List α} (h : OwK enc T k w B v xs) (hs : ∀ b, v.ownBlock = some b → w'.heap[b]? = w.heap[b]?) : OwK enc T k w' B v xs := by
 obtain ⟨h0, h1⟩ := h
 refine ⟨h0, ?_⟩
 rcases h1 with h1 | ⟨g, cap, cur, rfl, h2, h3, h4⟩
 · exact .inl h1
 · exact .inr ⟨g, cap, cur, rfl, h2, (hs g rfl).trans h3, h4⟩
section
variable {col : Nat → Nat} {w w' w1 : World} {s : Nat} {A : Array Value} {Y : Yl} {X : Xs} {f f' : Int → Option Int} {g g' : Int → Option Unit} {k k' : Nat}
theorem SrvR.foot_lt (h : SrvR col w s A Y X f g k) {b : Nat} (hb : Y.foot s b) : b < w.heap.size := by
 rcases hb with hb | hb | hb | hb | hb | hb
 · exact (h.c0 b hb).1
 · exact (h.c1 b hb).1
 · exact (h.c2 b hb).1
 · exact (h.c3 b hb).1
 · exact (h.c4 b hb).1
 · exact (h.c5 b hb).1
theorem SrvR.kept (h : SrvR col w s A Y X f g k) (hs : w.heap.size ≤ w'.heap.size) (hk : ∀ b, Y.foot s b → w'.heap[b]? = w.heap[b]?) : SrvR (paintC w col 9) w' s A Y X f g k := by
 obtain ⟨n, hn, hm⟩ := h.mak
 obtain ⟨n', hn', hm'⟩ := h.sav
 exact ⟨(hk s (.inl rfl)).trans h.srv, h.tree.kept fun b hb => hk b (.inr (.inl hb)), h.tab.kept fun b hb => hk b (.inr (.inr (.inl hb))), ⟨n, hn, hm.same (hk Y.mp (.inr (.inr (.inr (.inl rfl)))))⟩, ⟨n', hn', hm'.same (hk Y.sp (.inr (.inr (.inr (.inr (.inl rfl))))))⟩,
  row_kept h.row fun b hb => hk b (.inr (.inr (.inr (.inr (.inr hb))))), h.c0.stay hs, h.c1.stay hs, h.c2.stay hs, h.c3.stay hs, h.c4.stay hs, h.c5.stay hs⟩
theorem SrvR.next (h : SrvR col w s A Y X f g k) (hb : Below w.heap.size w w') : SrvR (paintC w col 9) w' s A Y X f g k := h.kept hb.size fun b hf => hb.block b (h.foot_lt hf)
theorem SrvR.more (h : SrvR col w s A Y X f g k) (hk : k ≤ k') : SrvR col w s A Y X f g k' := by
 obtain ⟨n, hn, hm⟩ := h.mak
 obtain ⟨n', hn', hm'⟩ := h.sav
 exact ⟨h.srv, h.tree, h.tab.more hk, ⟨n, Nat.le_trans hn hk, hm⟩, ⟨n', Nat.le_trans hn' hk, hm'⟩, h.row, h.c0, h.c1, h.c2, h.c3, h.c4, h.c5⟩
theorem SrvR.as (h : SrvR col w s A Y X f g k) {X' : Xs} (a1 : X'.R = X.R) (a2 : X'.L = X.L) (a3 : X'.H = X.H) (a4 : X'.E = X.E) : SrvR col w s A Y X' f g k := by
 obtain ⟨R', L', H', M', F', G', E'⟩ := X'
 dsimp only at a1 a2 a3 a4
 subst a1 a2 a3 a4
 exact ⟨h.srv, h.tree, h.tab, h.mak, h.sav, h.row, h.c0, h.c1, h.c2, h.c3, h.c4, h.c5⟩
theorem SrvR.treed (h : SrvR col w s A Y X f g k) {R' : RT} {L' : List Win} (hc : CT R' L' Y.t Y.l w w') : ∃ l', SrvR (paintC w col 1) w' s A { Y with l := l' } { X with R := R', L := L' } f g k ∧ Turn (Y.foot s) (({ Y with l := l' } : Yl).foot s) w w' := by
 obtain ⟨l', h1, h2⟩ := hc
 obtain ⟨n, hn, hm⟩ := h.mak
 obtain ⟨n', hn', hm'⟩ := h.sav
 refine ⟨l', ⟨(h.c0.block h.c1 (by decide) h2 rfl).trans h.srv, h1, h.tab.kept fun b hb => h.c2.block h.c1 (by decide) h2 hb, ⟨n, hn, hm.same (h.c3.block h.c1 (by decide) h2 rfl)⟩, ⟨n', hn', hm'.same (h.c4.block h.c1 (by decide) h2 rfl)⟩,
   row_kept h.row fun b hb => h.c5.block h.c1 (by decide) h2 hb, h.c0.stay h2.size, h.c1.turn h2 (fun b hb => h1.foot_lt hb), h.c2.stay h2.size, h.c3.stay h2.size, h.c4.stay h2.size, h.c5.stay h2.size⟩, h2.wide (fun b hb => .inr (.inl hb)) (fun b hb => ?_)⟩
 rcases hb with hb | hb | hb
 · exact .inr (.inl hb)
 · exact .inl hb
 · exact .inr (.inr (.inr hb))
theorem SrvR.tabled (h : SrvR col w s A Y X f g k) (hk : k ≤ k') {tl' : Pp.Tl} {H' : List Pp.Hd} (h1 : Pp.TT w' tl' H' k') (h2 : Turn Y.tl.foot tl'.foot w w') : SrvR (paintC w col 2) w' s A { Y with tl := tl' } { X with H := H' } f g k' ∧ Turn (Y.foot s) (({ Y with tl := tl' } : Yl).foot s) w w' := by
 obtain ⟨n, hn, hm⟩ := h.mak
 obtain ⟨n', hn', hm'⟩ := h.sav
 refine ⟨⟨(h.c0.block h.c2 (by decide) h2 rfl).trans h.srv, h.tree.kept fun b hb => h.c1.block h.c2 (by decide) h2 hb, h1, ⟨n, Nat.le_trans hn hk, hm.same (h.c3.block h.c2 (by decide) h2 rfl)⟩, ⟨n', Nat.le_trans hn' hk, hm'.same (h.c4.block h.c2 (by decide) h2 rfl)⟩,
   row_kept h.row fun b hb => h.c5.block h.c2 (by decide) h2 hb, h.c0.stay h2.size, h.c1.stay h2.size, h.c2.turn h2 (fun b hb => h1.lt hb), h.c3.stay h2.size, h.c4.stay h2.size, h.c5.stay h2.size⟩, h2.wide (fun b hb => .inr (.inr (.inl hb))) (fun b hb => ?_)⟩
 rcases hb with hb | hb | hb | hb
 · exact .inr (.inl hb)
 · exact .inr (.inr (.inl hb))
 · exact .inl hb
 · exact .inr (.inr (.inr (.inr hb)))
theorem turn_one {b : Nat} (hg : w.grownBy w' (some b)) : Turn (fun c => c = b) (fun c => c = b) w w' :=
 ⟨hg.os, hg.tape, hg.output, hg.size, fun i hi hn => hg.block i hi (fun e => hn (by injection e)), fun i hi => .inl hi⟩
theorem SrvR.makers (h : SrvR col w s A Y X f g k) (hk : k ≤ k') {n : Nat} (hn : n ≤ k') (h1 : MapG eltN 0 w' Y.mp f' n) (hg : w.grownBy w' (some Y.mp)) : SrvR (paintC w col 3) w' s A Y X f' g k' ∧ Turn (Y.foot s) (Y.foot s) w w' := by
 have h2 := turn_one hg
 obtain ⟨n', hn', hm'⟩ := h.sav
 exact ⟨⟨(h.c0.block h.c3 (by decide) h2 rfl).trans h.srv, h.tree.kept fun b hb => h.c1.block h.c3 (by decide) h2 hb, (h.tab.kept fun b hb => h.c2.block h.c3 (by decide) h2 hb).more hk, ⟨n, hn, h1⟩, ⟨n', Nat.le_trans hn' hk, hm'.same (h.c4.block h.c3 (by decide) h2 rfl)⟩,
  row_kept h.row fun b hb => h.c5.block h.c3 (by decide) h2 hb, h.c0.stay h2.size, h.c1.stay h2.size, h.c2.stay h2.size, h.c3.turn h2 (fun b hb => by rw [hb]; exact h1.lt), h.c4.stay h2.size, h.c5.stay h2.size⟩, h2.wide (fun b hb => .inr (.inr (.inr (.inl hb)))) (fun b hb => .inr hb)⟩
theorem SrvR.saved (h : SrvR col w s A Y X f g k) (hk : k ≤ k') {n : Nat} (hn : n ≤ k') (h1 : MapG eltU () w' Y.sp g' n) (hg : w.grownBy w' (some Y.sp)) : SrvR (paintC w col 4) w' s A Y X f g' k' ∧ Turn (Y.foot s) (Y.foot s) w w' := by
 have h2 := turn_one hg
 obtain ⟨n', hn', hm'⟩ := h.mak
 exact ⟨⟨(h.c0.block h.c4 (by decide) h2 rfl).trans h.srv, h.tree.kept fun b hb => h.c1.block h.c4 (by decide) h2 hb, (h.tab.kept fun b hb => h.c2.block h.c4 (by decide) h2 hb).more hk, ⟨n', Nat.le_trans hn' hk, hm'.same (h.c3.block h.c4 (by decide) h2 rfl)⟩, ⟨n, hn, h1⟩,
  row_kept h.row fun b hb => h.c5.block h.c4 (by decide) h2 hb, h.c0.stay h2.size, h.c1.stay h2.size, h.c2.stay h2.size, h.c3.stay h2.size, h.c4.turn h2 (fun b hb => by rw [hb]; exact h1.lt), h.c5.stay h2.size⟩, h2.wide (fun b hb => .inr (.inr (.inr (.inr (.inl hb))))) (fun b hb => .inr hb)⟩
theorem SrvR.rowed (h : SrvR col w s A Y X f g k) {v' : Value} {E' : List Ev} (hb : Below w.heap.size w w1) (hg : w1.grownBy w' Y.wv.ownBlock) (ho : OwK encE 71 7 w' 0 v' E') (hv : ∀ r, v'.ownBlock = some r → Y.wv.ownBlock = some r ∨ w.heap.size ≤ r) : SrvR (paintC w col 5) w' s A { Y with wv := v' } { X with E := E' } f g k ∧ Turn (Y.foot s) (({ Y with wv := v' } : Yl).foot s) w w' := by
 have h2 : Turn (fun b => Y.wv.ownBlock = some b) (fun b => v'.ownBlock = some b) w w' := ⟨hg.os.trans hb.os, hg.tape.trans hb.tape, hg.output.trans hb.output, Nat.le_trans hb.size hg.size, fun i hi hn => (hg.block i (Nat.lt_of_lt_of_le hi hb.size) (fun e => hn e.symm)).trans (hb.block i hi), fun i hi => hv i hi⟩
 obtain ⟨n, hn, hm⟩ := h.mak
 obtain ⟨n', hn', hm'⟩ := h.sav
 refine ⟨⟨(h.c0.block h.c5 (by decide) h2 rfl).trans h.srv, h.tree.kept fun b hb => h.c1.block h.c5 (by decide) h2 hb, h.tab.kept fun b hb => h.c2.block h.c5 (by decide) h2 hb, ⟨n, hn, hm.same (h.c3.block h.c5 (by decide) h2 rfl)⟩, ⟨n', hn', hm'.same (h.c4.block h.c5 (by decide) h2 rfl)⟩, ho,
   h.c0.stay h2.size, h.c1.stay h2.size, h.c2.stay h2.size, h.c3.stay h2.size, h.c4.stay h2.size, h.c5.turn h2 (fun b hb => (OwK.lt ho hb).2)⟩, h2.wide (fun b hb => .inr (.inr (.inr (.inr (.inr hb))))) (fun b hb => ?_)⟩
 rcases hb with hb | hb | hb | hb | hb | hb
 · exact .inr (.inl hb)
 · exact .inr (.inr (.inl hb))
 · exact .inr (.inr (.inr (.inl hb)))
 · exact .inr (.inr (.inr (.inr (.inl hb))))
 · exact .inr (.inr (.inr (.inr (.inr (.inl hb)))))
 · exact .inl hb
theorem SrvR.cell (h : SrvR col w s A Y X f g k) (j : Nat) (u : Value) : SrvR (paintC w col 0) (w.setCell ⟨s, j, none⟩ u) s (A.setIfInBounds j u) Y X f g k ∧ Turn (Y.foot s) (Y.foot s) w (w.setCell ⟨s, j, none⟩ u) := by
 have h2 : Turn (fun b => b = s) (fun b => b = s) w (w.setCell ⟨s, j, none⟩ u) := ⟨rfl, rfl, rfl, by simp [World.setCell], fun i _ hn => Below.heap_setCell w _ u i hn, fun i hi => .inl hi⟩
 obtain ⟨n, hn, hm⟩ := h.mak
 obtain ⟨n', hn', hm'⟩ := h.sav
 exact ⟨⟨h.srv.set_ j u, h.tree.kept fun b hb => h.c1.block h.c0 (by decide) h2 hb, h.tab.kept fun b hb => h.c2.block h.c0 (by decide) h2 hb, ⟨n, hn, hm.same (h.c3.block h.c0 (by decide) h2 rfl)⟩, ⟨n', hn', hm'.same (h.c4.block h.c0 (by decide) h2 rfl)⟩,
  row_kept h.row fun b hb => h.c5.block h.c0 (by decide) h2 hb, h.c0.turn h2 (fun b hb => by rw [hb]; exact (h.srv.set_ j u).lt), h.c1.stay h2.size, h.c2.stay h2.size, h.c3.stay h2.size, h.c4.stay h2.size, h.c5.stay h2.size⟩, h2.wide (fun b hb => .inl hb) (fun b hb => .inr hb)⟩
theorem Srv.next (h : Srv w s Y X k) (hb : Below w.heap.size w w') : Srv w' s Y X k := by
 obtain ⟨col, h⟩ := h
 exact ⟨_, h.next hb⟩
theorem Srv.more (h : Srv w s Y X k) (hk : k ≤ k') : Srv w s Y X k' := by
 obtain ⟨col, h⟩ := h
 exact ⟨_, h.more hk⟩
theorem Srv.blk (h : Srv w s Y X k) : Blk w s 80 (srvA Y X) := by
 obtain ⟨col, h⟩ := h
 exact h.srv
theorem Srv.tree (h : Srv w s Y X k) : TB w Y.t Y.l X.R X.L := by
 obtain ⟨col, h⟩ := h
 exact h.tree
theorem Srv.foot_lt (h : Srv w s Y X k) {b : Nat} (hb : Y.foot s b) : b < w.heap.size := by
 obtain ⟨col, h⟩ := h
 exact h.foot_lt hb
theorem SrvTo.same (h : Srv w s Y X k) (hb : Below w.heap.size w w') : SrvTo w s Y X k w' := ⟨Y, h.next hb, Turn.of_below hb⟩
theorem SrvTo.trans {Y1 : Yl} {X' : Xs} (h : Turn (Y.foot s) (Y1.foot s) w w1) (k : SrvTo w1 s Y1 X' k' w') : SrvTo w s Y X' k' w' := by
 obtain ⟨Y', h1, h2⟩ := k
 exact ⟨Y', h1, h.trans h2⟩
theorem SrvTo.after {X' : Xs} (hb : Below w.heap.size w w1) (k : SrvTo w1 s Y X' k' w') : SrvTo w s Y X' k' w' := SrvTo.trans (Turn.of_below hb) k
theorem SrvTo.then {X' : Xs} (h : SrvTo w s Y X' k' w1) (hb : Below w1.heap.size w1 w') : SrvTo w s Y X' k' w' := by
 obtain ⟨Y', h1, h2⟩ := h
 exact ⟨Y', h1.next hb, h2.then_below hb⟩
end
end Go.Proofs.YtnhchpiafchdgaaGreat
namespace Go.Proofs.YtnhchpiafchdgaaGreat
open Go.RowKit Go.Shelf Go.Maps
def NoSrv (w : World) (p : Value) : Prop := p = .pointer none ∨ ∃ s, p = srvP s ∧ Blk w s 80 #[.pointer none, .pointer none, .map none, .map none, .slice none 0 0, .int .i64 0, .bool false]
theorem NoSrv.next {w w' : World} {p : Value} (h : NoSrv w p) (hb : Below w.heap.size w w') : NoSrv w' p := by
 rcases h with h | ⟨t, h, k⟩
 · exact .inl h
 · exact .inr ⟨t, h, k.next hb⟩
section
variable {w : World} {s : Nat} {Y : Yl} {X : Xs} {k m : Nat}
theorem windows_c (h : Srv w s Y X k) : Calls Tryz.prog 43 #[srvP s] w fun e w' => e = .returned (treeP Y.t) ∧ w = w' := by
 obtain ⟨⟨b0, b1, b2, b3, b4, b5, b6⟩, -⟩ := h.blk.c7
 clear h
 go_enter Tryz.func43, Tryz.ntmps43
 go_wp2
 go_ret
 exact ⟨rfl, rfl⟩
theorem client_c (a : Int) (w : World) : Calls Tryz.prog 67 #[.int .i64 a] w fun e w' => e = .returned (.bool (decide (0 < a))) ∧ w = w' := by
 go_enter Tryz.func67, Tryz.ntmps67
 go_wp2
 go_ret
 exact ⟨rfl, rfl⟩
theorem focus_c (h : Srv w s Y X k) : Calls Tryz.prog 17 #[srvP s] w fun e w' => e = .returned (.int .i64 X.F) ∧ w = w' := by
 obtain ⟨⟨b0, b1, b2, b3, b4, b5, b6⟩, -⟩ := h.blk.c7
 clear h
 go_enter Tryz.func17, Tryz.ntmps17
 go_wp2
 go_ret
 exact ⟨rfl, rfl⟩
theorem acts_c (h : Srv w s Y X k) (a : Int) : Calls Tryz.prog 45 #[srvP s, .int .i64 a] w fun e w' => e = .returned (.bool (if a = 0 then X.G else decide (0 < a))) ∧ w = w' := by
 obtain ⟨⟨b0, b1, b2, b3, b4, b5, b6⟩, -⟩ := h.blk.c7
 clear h
 by_cases h0 : a = 0
 · subst h0
   go_enter Tryz.func45, Tryz.ntmps45
   go_wp2_with fail
   go_ret
   exact ⟨rfl, rfl⟩
 · have h1 : (a == 0) = false := by simpa using h0
   rw [if_neg h0]
   clear h0
   go_enter Tryz.func45, Tryz.ntmps45
   go_wp2_with (go_at_call 67; ((with_reducible refine (client_c _ _).mono ?_); rintro e w' ⟨rfl, rfl⟩))
   go_ret
   exact ⟨rfl, rfl⟩
theorem zeroN (w : World) : (zeroValue 3).run Tryz.prog w = .ok (.int .i64 0) w := by kernel_rfl
theorem Srv.mak {w : World} (h : Srv w s Y X k) : ∃ n, n ≤ k ∧ MapG eltN 0 w Y.mp (makF X.M) n := by
 obtain ⟨col, h⟩ := h
 exact h.mak
theorem Srv.sav {w : World} (h : Srv w s Y X k) : ∃ n, n ≤ k ∧ MapG eltU () w Y.sp (savF X.M) n := by
 obtain ⟨col, h⟩ := h
 exact h.sav
theorem look_mak (h : Srv w s Y X k) {i : Int} (hi : I64 i) : (Instr.lookup 77 (.map (some Y.mp)) (.int .i64 i) true).run Tryz.prog w = .ok (.tuple #[.int .i64 ((makF X.M i).getD 0), .bool (makF X.M i).isSome]) w := by
 obtain ⟨n, -, hm⟩ := h.mak
 exact hm.look2 Tryz.underlying77 (zeroN w) hi
theorem look_mak1 (h : Srv w s Y X k) {i : Int} (hi : I64 i) : (Instr.lookup 77 (.map (some Y.mp)) (.int .i64 i) false).run Tryz.prog w = .ok (.int .i64 ((makF X.M i).getD 0)) w := by
 obtain ⟨n, -, hm⟩ := h.mak
 exact hm.look Tryz.underlying77 (zeroN w) hi
theorem owner_c (h : Srv w s Y X k) {i : Int} (hi : I64 i) : Calls Tryz.prog 29 #[srvP s, .int .i64 i] w fun e w' => e = .returned (.tuple #[.int .i64 ((makF X.M i).getD 0), .bool (makF X.M i).isSome]) ∧ w = w' := by
 obtain ⟨⟨b0, b1, b2, b3, b4, b5, b6⟩, -⟩ := h.blk.c7
 have e0 := look_mak h hi
 obtain ⟨u, hu⟩ : ∃ u, u = (makF X.M i).getD 0 := ⟨_, rfl⟩
 obtain ⟨v, hv⟩ : ∃ v, v = (makF X.M i).isSome := ⟨_, rfl⟩
 rw [← hu, ← hv] at e0 ⊢
 clear h hi hu hv
 go_enter Tryz.func29, Tryz.ntmps29
 go_wp2
 go_ret2
 exact ⟨rfl, rfl⟩
theorem isof_c (h : Srv w s Y X k) {i : Int} (hi : I64 i) (a : Int) : Calls Tryz.prog 79 #[srvP s, .int .i64 i, .int .i64 a] w fun e w' => e = .returned (.bool (decide (makF X.M i = some a))) ∧ w = w' := by
 have H := Lib.hid (owner_c h hi)
 clear h hi
 cases hm : makF X.M i with
 | none =>
  rw [hm] at H
  clear hm
  go_enter Tryz.func79, Tryz.ntmps79
  go_wp2_with (go_at_call 29; ((with_reducible refine (H.out).mono ?_); rintro e w' ⟨rfl, rfl⟩))
  go_ret
  exact ⟨rfl, rfl⟩
 | some o =>
  rw [hm] at H
  clear hm
  by_cases ho : o = a
  · have h1 : (o == a) = true := by simpa using ho
    rw [show decide (some o = some a) = true by simp [ho]]
    clear ho
    go_enter Tryz.func79, Tryz.ntmps79
    go_wp2_with (go_at_call 29; ((with_reducible refine (H.out).mono ?_); rintro e w' ⟨rfl, rfl⟩))
    go_ret
    exact ⟨rfl, rfl⟩
  · have h1 : (o == a) = false := by simpa using ho
    rw [show decide (some o = some a) = false by simp [ho]]
    clear ho
    go_enter Tryz.func79, Tryz.ntmps79
    go_wp2_with (go_at_call 29; ((with_reducible refine (H.out).mono ?_); rintro e w' ⟨rfl, rfl⟩))
    go_ret
    exact ⟨rfl, rfl⟩
theorem has_c (h : Srv w s Y X k) (hS : Sane X.R X.L m) {i : Int} (hi : I64 i) : Calls Tryz.prog 92 #[srvP s, .int .i64 i] w fun e w' => e = .returned (.bool (thereL X.R X.L i)) ∧ Below w.heap.size w w' := by
 obtain ⟨⟨b0, b1, b2, b3, b4, b5, b6⟩, -⟩ := h.blk.c7
 have H := Lib.hid ((shows_all hS hi).cget w _ _ h.tree)
 clear h hS hi
 go_enter Tryz.func92, Tryz.ntmps92
 go_wp2_with (go_at_call 48; ((with_reducible refine (H.out).mono ?_); rintro e w' ⟨rfl, hb⟩); have HB := Lib.hid hb; clear hb)
 go_ret
 exact ⟨rfl, HB.out.alloc HB.out.size _⟩
end
section
variable {w : World} {s : Nat} {Y : Yl} {X : Xs} {k m : Nat} {p tv : Value}
set_option maxRecDepth 100000 in
theorem sget_f {i : Int} {v : Win} {ok : Bool} (hw : ∀ W, Below w.heap.size w W → Calls Tryz.prog 43 #[p] W fun e w' => e = .returned tv ∧ W = w')
  (hg : ∀ W, Below w.heap.size w W → Calls Tryz.prog 48 #[tv, .int .i64 i] W fun e w' => e = .returned (.tuple #[winV v, .bool ok]) ∧ Below W.heap.size W w') :
  Calls Tryz.prog 21 #[p, .int .i64 i] w fun e w' => e = .returned (.tuple #[winV v, .bool ok]) ∧ Below w.heap.size w w' := by
 obtain ⟨wb, hwb⟩ : ∃ wb, wb = w.alloc (.cells #[.int .i64 0, .int .i64 0, .int .i64 0, .int .i64 0, .int .i64 0, .int .i64 0, .bool false] 61) := ⟨_, rfl⟩
 have hbel : Below w.heap.size w wb := by rw [hwb]; exact (Below.refl _ _).alloc (Nat.le_refl _) _
 have hbx : Blk wb w.heap.size 61 #[.int .i64 0, .int .i64 0, .int .i64 0, .int .i64 0, .int .i64 0, .int .i64 0, .bool false] := by rw [hwb]; exact Blk.new w _ _
 have H := Lib.hid (hw wb hbel)
 have HG := Lib.hid (hg wb hbel)
 have HX := Lib.hid hbx
 have HB := Lib.hid hbel
 have HW := Lib.hid hwb
 clear hw hg hbx hbel
 go_enter Tryz.func21, Tryz.ntmps21
 go_upto_region 1 with fail
 rw [← HW.out]
 clear hwb
 go_wp2_with (first
  | (go_at_call 43; ((with_reducible refine (H.out).mono ?_); rintro e w' ⟨rfl, rfl⟩))
  | (go_at_call 48; ((with_reducible refine (HG.out).mono ?_); rintro e w1 ⟨rfl, hb⟩); have HB1 := Lib.hid (hb.on HB.out HB.out.size); obtain ⟨⟨z0, z1, z2, z3, z4, z5, z6⟩, ⟨f0, f1, f2, f3, f4, f5, f6⟩⟩ := (HX.out.next hb).c7; clear hb))
 refine bodyPost_ret (v := .tuple #[winV v, .bool ok]) (by simp [results, Tryz.results21, go_sem, z0, z1, z2, z3, z4, z5, z6]) rfl ?_
 exact ⟨rfl, ((((((HB1.out.setCell (Nat.le_refl _) _).setCell (Nat.le_refl _) _).setCell (Nat.le_refl _) _).setCell (Nat.le_refl _) _).setCell (Nat.le_refl _) _).setCell (Nat.le_refl _) _).setCell (Nat.le_refl _) _⟩
theorem sabs_f {i x y : Int} {ok : Bool} (hw : ∀ W, Below w.heap.size w W → Calls Tryz.prog 43 #[p] W fun e w' => e = .returned tv ∧ W = w')
  (hg : ∀ W, Below w.heap.size w W → Calls Tryz.prog 51 #[tv, .int .i64 i] W fun e w' => e = .returned (.tuple #[.agg #[.int .i64 x, .int .i64 y], .bool ok]) ∧ Below W.heap.size W w') :
  Calls Tryz.prog 30 #[p, .int .i64 i] w fun e w' => e = .returned (.tuple #[.agg #[.int .i64 x, .int .i64 y], .bool ok]) ∧ Below w.heap.size w w' := by
 obtain ⟨wb, hwb⟩ : ∃ wb, wb = w.alloc (.cells #[.int .i64 0, .int .i64 0] 87) := ⟨_, rfl⟩
 have hbel : Below w.heap.size w wb := by rw [hwb]; exact (Below.refl _ _).alloc (Nat.le_refl _) _
 have hbx : Blk wb w.heap.size 87 #[.int .i64 0, .int .i64 0] := by rw [hwb]; exact Blk.new w _ _
 have H := Lib.hid (hw wb hbel)
 have HG := Lib.hid (hg wb hbel)
 have HX := Lib.hid hbx
 have HB := Lib.hid hbel
 have HW := Lib.hid hwb
 clear hw hg hbx hbel
 go_enter Tryz.func30, Tryz.ntmps30
 go_upto_region 1 with fail
 rw [← HW.out]
 clear hwb
 go_wp2_with (first
  | (go_at_call 43; ((with_reducible refine (H.out).mono ?_); rintro e w' ⟨rfl, rfl⟩))
  | (go_at_call 51; ((with_reducible refine (HG.out).mono ?_); rintro e w1 ⟨rfl, hb⟩); have HB1 := Lib.hid (hb.on HB.out HB.out.size); obtain ⟨⟨z0, z1⟩, ⟨f0, f1⟩⟩ := (HX.out.next hb).c2; clear hb))
 refine bodyPost_ret (v := .tuple #[.agg #[.int .i64 x, .int .i64 y], .bool ok]) (by simp [results, Tryz.results30, go_sem, z0, z1]) rfl ?_
 exact ⟨rfl, (HB1.out.setCell (Nat.le_refl _) _).setCell (Nat.le_refl _) _⟩
theorem sview_f {i : Int} {b : Bool} (hw : Calls Tryz.prog 43 #[p] w fun e w' => e = .returned tv ∧ w = w')
  (hg : Calls Tryz.prog 44 #[tv, .int .i64 i] w fun e w' => e = .returned (.bool b) ∧ w = w') :
  Calls Tryz.prog 18 #[p, .int .i64 i] w fun e w' => e = .returned (.bool b) ∧ w = w' := by
 have H := Lib.hid hw
 have HG := Lib.hid hg
 clear hw hg
 go_enter Tryz.func18, Tryz.ntmps18
 go_wp2_with (first
  | (go_at_call 43; ((with_reducible refine (H.out).mono ?_); rintro e w' ⟨rfl, rfl⟩))
  | (go_at_call 44; ((with_reducible refine (HG.out).mono ?_); rintro e w1 ⟨rfl, rfl⟩)))
 go_ret
 exact ⟨rfl, rfl⟩
theorem skids_f {i : Int} {xs : List Int} (hw : Calls Tryz.prog 43 #[p] w fun e w' => e = .returned tv ∧ w = w')
  (hg : Calls Tryz.prog 49 #[tv, .int .i64 i] w fun e w' => ∃ v', e = .returned v' ∧ RdI w' v' xs ∧ Below w.heap.size w w') :
  Calls Tryz.prog 26 #[p, .int .i64 i] w fun e w' => ∃ v', e = .returned v' ∧ RdI w' v' xs ∧ Below w.heap.size w w' := by
 have H := Lib.hid hw
 have HG := Lib.hid hg
 clear hw hg
 go_enter Tryz.func26, Tryz.ntmps26
 go_wp2_with (first
  | (go_at_call 43; ((with_reducible refine (H.out).mono ?_); rintro e w' ⟨rfl, rfl⟩))
  | (go_at_call 49; ((with_reducible refine (HG.out).mono ?_); rintro e w1 ⟨v', rfl, hr, hb⟩); have HR := Lib.hid (And.intro hr hb); obtain ⟨p0, c0, hv, -⟩ := hr; subst hv; clear hb))
 go_ret
 exact ⟨_, rfl, HR.out⟩
theorem sget_c (h : Srv w s Y X k) (hS : Sane X.R X.L m) {i : Int} (hi : I64 i) : Calls Tryz.prog 21 #[srvP s, .int .i64 i] w fun e w' => e = .returned (.tuple #[winV (winL X.R X.L i), .bool (thereL X.R X.L i)]) ∧ Below w.heap.size w w' :=
 sget_f (fun _ hW => windows_c (h.next hW)) fun W hW => (shows_all hS hi).cget W _ _ (h.next hW).tree
theorem sabs_c (h : Srv w s Y X k) (hS : Sane X.R X.L m) {i : Int} (hi : I64 i) : Calls Tryz.prog 30 #[srvP s, .int .i64 i] w fun e w' => e = .returned (.tuple #[.agg #[.int .i64 (absXL X.R X.L i), .int .i64 (absYL X.R X.L i)], .bool (thereL X.R X.L i)]) ∧ Below w.heap.size w w' :=
 sabs_f (fun _ hW => windows_c (h.next hW)) fun W hW => (shows_all hS hi).cabs W _ _ (h.next hW).tree
theorem sview_c (h : Srv w s Y X k) (hS : Sane X.R X.L m) {i : Int} (hi : I64 i) : Calls Tryz.prog 18 #[srvP s, .int .i64 i] w fun e w' => e = .returned (.bool (viewL X.R X.L i)) ∧ w = w' :=
 sview_f (windows_c h) ((shows_all hS hi).cview w _ _ h.tree)
theorem skids_c (h : Srv w s Y X k) (hS : Sane X.R X.L m) {i : Int} (hi : I64 i) : Calls Tryz.prog 26 #[srvP s, .int .i64 i] w fun e w' => ∃ v', e = .returned v' ∧ RdI w' v' (kidsL X.L i) ∧ Below w.heap.size w w' :=
 skids_f (windows_c h) ((shows_all hS hi).ckids w _ _ h.tree)
theorem Srv.tab {w : World} (h : Srv w s Y X k) : Pp.TT w Y.tl X.H k := by
 obtain ⟨col, h⟩ := h
 exact h.tab
theorem sprop_c (h : Srv w s Y X k) (hH : Pp.HOk X.H) {i : Int} (hi : I64 i) {n : ByteArray} (hn : n.size ≤ maxLen) :
  Calls Tryz.prog 28 #[srvP s, .int .i64 i, .string n] w fun e w' => e = .returned (.tuple #[Pp.prV ((Pp.msH X.H i n).getD Pp.noP), .bool (Pp.msH X.H i n).isSome]) ∧ Below w.heap.size w w' := by
 obtain ⟨wb, hwb⟩ : ∃ wb, wb = w.alloc (.cells #[.string ⟨#[]⟩, .string ⟨#[]⟩, .string ⟨#[]⟩] 35) := ⟨_, rfl⟩
 have hbel : Below w.heap.size w wb := by rw [hwb]; exact (Below.refl _ _).alloc (Nat.le_refl _) _
 have hbx : Blk wb w.heap.size 35 #[.string ⟨#[]⟩, .string ⟨#[]⟩, .string ⟨#[]⟩] := by rw [hwb]; exact Blk.new w _ _
 obtain ⟨⟨b0, b1, b2, b3, b4, b5, b6⟩, -⟩ := (h.next hbel).blk.c7
 have HG := Lib.hid (Pp.tt_get (h.next hbel).tab hH hi hn)
 obtain ⟨q, hq⟩ : ∃ q, q = (Pp.msH X.H i n).getD Pp.noP := ⟨_, rfl⟩
 obtain ⟨ok, hok⟩ : ∃ ok, ok = (Pp.msH X.H i n).isSome := ⟨_, rfl⟩
 rw [← hq, ← hok] at HG ⊢
 have HX := Lib.hid hbx
 have HB := Lib.hid hbel
 have HW := Lib.hid hwb
 clear h hH hi hn hq hok hbx hbel
 go_enter Tryz.func28, Tryz.ntmps28
 go_upto_region 1 with fail
 rw [← HW.out]
 clear hwb
 go_wp2_with (go_at_call 50; ((with_reducible refine (HG.out).mono ?_); rintro e w1 ⟨rfl, hb⟩); have HB1 := Lib.hid (hb.on HB.out HB.out.size); obtain ⟨⟨z0, z1, z2⟩, ⟨f0, f1, f2⟩⟩ := (HX.out.next hb).c3; clear hb)
 refine bodyPost_ret (v := .tuple #[Pp.prV q, .bool ok]) (by simp [results, Tryz.results28, go_sem, z0, z1, z2]) rfl ?_
 exact ⟨rfl, ((HB1.out.setCell (Nat.le_refl _) _).setCell (Nat.le_refl _) _).setCell (Nat.le_refl _) _⟩
end
section
variable {w : World} {p : Value}
end
end Go.Proofs.YtnhchpiafchdgaaGreat
namespace Go.Proofs.YtnhchpiafchdgaaGreat
open Go.RowKit Go.Shelf Go.Maps
theorem look_eq (X : Xs) (h : X.F = 0 ∨ viewL X.R X.L X.F = true) : X.look = X := by
 unfold Xs.look
 rw [if_neg]
 rintro ⟨h1, h2⟩
 rcases h with h | h
 · exact h1 h
 · rw [h] at h2; cases h2
section
variable {w : World} {s : Nat} {Y : Yl} {X : Xs} {k m : Nat}
theorem Srv.focused (h : Srv w s Y X k) (i : Int) : SrvTo w s Y { X with F := i } k (w.setCell ⟨s, 5, none⟩ (.int .i64 i)) := by
 obtain ⟨col, h⟩ := h
 obtain ⟨h1, h2⟩ := h.cell 5 (.int .i64 i)
 exact ⟨Y, ⟨_, SrvR.as (X := X) (X' := { X with F := i }) h1 rfl rfl rfl rfl⟩, h2⟩
theorem Srv.drewN (h : Srv w s Y X k) (q : Nat) : Srv (w.drewN q) s Y X k := by
 obtain ⟨col, h⟩ := h
 exact ⟨_, h.kept (Nat.le_refl _) fun _ _ => rfl⟩
theorem view_root (_S : Sane X.R X.L m) : viewL X.R X.L 0 = true := by
 have hd : ndL X.R X.L 0 = some ⟨rootW X.R, kidsL X.L 0⟩ := nd_root
 have hw : Way (ndL X.R X.L) 0 0 := ⟨rfl, _, hd⟩
 unfold viewL
 rw [ups_eq hw]
 unfold thereL viewB onOf
 rw [hd]
 rfl
theorem keep_c (h : Srv w s Y X k) (hS : Sane X.R X.L m) (hf : I64 X.F) : Calls Tryz.prog 47 #[srvP s] w fun e w' => e = .returned (.tuple #[]) ∧ SrvTo w s Y X.look k w' := by
 obtain ⟨⟨b0, b1, b2, b3, b4, b5, b6⟩, ⟨z0, z1, z2, z3, z4, z5, z6⟩⟩ := h.blk.c7
 have HV := fun q => (shows_all hS hf).cview (w.drewN q) _ _ (h.drewN q).tree
 cases hv : viewL X.R X.L X.F with
 | true =>
  simp only [hv] at HV
  have HH := Lib.hid HV
  have HR := Lib.hid (fun q => (show SrvTo w s Y X.look k (w.drewN q) from by
   rw [look_eq X (.inr hv)]
   exact ⟨Y, h.drewN q, Turn.of_below (below_drewN (Below.refl _ _) _)⟩))
  clear h hS hf HV hv
  go_enter Tryz.func47, Tryz.ntmps47
  go_wp2_with fail
  go_quiet ((go_at_call 44; exact Calls.quiet_of_same ((HH.out _).mono fun e w' h => ⟨h.1, h.2.symm⟩)))
  go_wp2_with fail
  go_end0
  exact ⟨rfl, HR.out _⟩
 | false =>
  simp only [hv] at HV
  have HH := Lib.hid HV
  have h0 : X.F ≠ 0 := fun e => by rw [e, view_root hS] at hv; cases hv
  have HR := Lib.hid (fun q => (show SrvTo w s Y X.look k ((w.drewN q).setCell ⟨s, 5, none⟩ (.int .i64 0)) from by
   unfold Xs.look
   rw [if_pos ⟨h0, hv⟩]
   exact SrvTo.after (below_drewN (Below.refl _ _) _) ((h.drewN q).focused 0)))
  clear h hS hf HV hv
  go_enter Tryz.func47, Tryz.ntmps47
  go_wp2_with fail
  go_quiet ((go_at_call 44; exact Calls.quiet_of_same ((HH.out _).mono fun e w' h => ⟨h.1, h.2.symm⟩)))
  go_wp2_with fail
  go_end0
  exact ⟨rfl, HR.out _⟩
theorem evInfo : (Tryz.prog.info? 71).map (fun i => (i.zero, i.size, i.bytes)) = some (some (.agg #[.int .i64 0, .int .i64 0, .int .i64 0, .int .i64 0, .int .i64 0, .int .i64 0, .string ByteArray.empty]), 7, 64) := by kernel_rfl
theorem Srv.told (h : Srv w s Y X k) {Wa W : World} (hb : Below w.heap.size w Wa) (hg : Wa.grownBy W Y.wv.ownBlock) {v' : Value} {E' : List Ev} (ho : OwK encE 71 7 W 0 v' E') (hv : ∀ r, v'.ownBlock = some r → Y.wv.ownBlock = some r ∨ w.heap.size ≤ r) : SrvTo w s Y { X with E := E' } k (W.setCell ⟨s, 4, none⟩ v') := by
 obtain ⟨col, h⟩ := h
 obtain ⟨h1, h2⟩ := h.rowed hb hg ho hv
 obtain ⟨h3, h4⟩ := h1.cell 4 v'
 exact ⟨{ Y with wv := v' }, ⟨_, h3⟩, h2.trans h4⟩
theorem Srv.row_ne (h : Srv w s Y X k) : some s ≠ Y.wv.ownBlock := by
 obtain ⟨col, h⟩ := h
 intro e
 have h1 := (h.c0 s rfl).2
 have h2 := (h.c5 s e.symm).2
 rw [h1] at h2; cases h2
theorem Srv.row (h : Srv w s Y X k) : OwK encE 71 7 w 0 Y.wv X.E := by
 obtain ⟨col, h⟩ := h
 exact h.row
abbrev evV (e : Ev) : Value := .agg #[.int .i64 e.kind, .int .i64 e.win, .int .i64 e.x, .int .i64 e.y, .int .i64 e.a, .int .i64 e.e, .string e.name]
theorem cell_list7 (w : World) (t : TypeId) (v0 v1 v2 v3 v4 v5 v6 : Value) : ∀ (j : Nat) (u : Value), [v0, v1, v2, v3, v4, v5, v6][j]? = some u → ((w.alloc (.cells #[v0, v1, v2, v3, v4, v5, v6] t)).drew).cell? ((⟨w.heap.size, 0, none⟩ : Addr).add j) = some u := by
 intro j u hu
 have h := ((Blk.new w t #[v0, v1, v2, v3, v4, v5, v6]).drew).cell j
 rw [Addr.add_lit, Nat.zero_add, h]
 simpa using hu
set_option maxRecDepth 100000 in
set_option maxHeartbeats 2000000 in
theorem tell_c (h : Srv w s Y X k) (hE : X.E.length ≤ 4096) (e : Ev) : Calls Tryz.prog 110 #[srvP s, evV e] w fun ex w' => ex = .returned (.tuple #[]) ∧ SrvTo w s Y (X.tell e) k w' := by
 obtain ⟨wb, hwb⟩ : ∃ wb, wb = w.alloc (.cells #[.int .i64 e.kind, .int .i64 e.win, .int .i64 e.x, .int .i64 e.y, .int .i64 e.a, .int .i64 e.e, .string e.name] 71) := ⟨_, rfl⟩
 have hbel : Below w.heap.size w wb := by rw [hwb]; exact (Below.refl _ _).alloc (Nat.le_refl _) _
 have hbx : Blk wb w.heap.size 71 #[.int .i64 e.kind, .int .i64 e.win, .int .i64 e.x, .int .i64 e.y, .int .i64 e.a, .int .i64 e.e, .string e.name] := by rw [hwb]; exact Blk.new w _ _
 have hs := h.next hbel
 obtain ⟨⟨b0, b1, b2, b3, b4, b5, b6⟩, -⟩ := hs.blk.c7
 obtain ⟨⟨x0, x1, x2, x3, x4, x5, x6⟩, -⟩ := hbx.c7
 obtain ⟨p, c, hwv⟩ := h.row.slice
 have HW := Lib.hid hwb
 have HB := Lib.hid hbel
 obtain ⟨n, hn⟩ : ∃ n, n = X.E.length := ⟨_, rfl⟩
 rw [hwv, ← hn] at b4
 rw [← hn] at hE
 by_cases hG : X.G = true
 · rw [hG] at b6
   by_cases hl : n < 4096
   · have hX : X.tell e = { X with E := X.E ++ [e] } := by unfold Xs.tell; rw [if_pos ⟨hG, by rw [← hn]; exact hl⟩]
     obtain ⟨i0, hi0, hz0, hz1, hz2⟩ := info_parts evInfo
     have hl1 : (n : Int) < 4096 := by omega
     have hWa : Below wb.heap.size wb (wb.alloc (.cells #[.int .i64 e.kind, .int .i64 e.win, .int .i64 e.x, .int .i64 e.y, .int .i64 e.a, .int .i64 e.e, .string e.name] 71)).drew := ((Below.refl _ wb).alloc (Nat.le_refl _) _).drew
     have ha := hs.next hWa
     obtain ⟨⟨a0, a1, a2, a3, a4, a5, a6⟩, -⟩ := ha.blk.c7
     rw [hwv, ← hn] at a4
     have HR := Lib.hid (show (wb.alloc (.cells #[.int .i64 e.kind, .int .i64 e.win, .int .i64 e.x, .int .i64 e.y, .int .i64 e.a, .int .i64 e.e, .string e.name] 71)).drew.ownsRow 0 71 7 (.slice p n c) n (X.E.flatMap encE) from by
      have := ha.row
      rw [hwv, ← hn] at this
      unfold OwK at this
      rw [← hn] at this
      exact this)
     have HK := Lib.hid (fun (W : World) (hg : (wb.alloc (.cells #[.int .i64 e.kind, .int .i64 e.win, .int .i64 e.x, .int .i64 e.y, .int .i64 e.a, .int .i64 e.e, .string e.name] 71)).drew.grownBy W (Value.slice p n c).ownBlock) => (show W.cell? ⟨s, 4, none⟩ = some (.slice p n c) ∧ W.frozen? ⟨s, 4, none⟩ = false from by
      have k1 := ha.blk.grown hg (by rw [hn, ← hwv]; exact h.row_ne)
      exact ⟨by have := k1.at_ (i := 4) (v := Y.wv) rfl; rw [hwv, ← hn] at this; exact this, k1.frozen 4⟩))
     have HG2 := Lib.hid (fun (W : World) (g' cap' : Nat) (ho : W.ownsRow 0 71 7 (.slice (some ⟨g', 0, none⟩) (n + 1) cap') (n + 1) (X.E.flatMap encE ++ [.int .i64 e.kind, .int .i64 e.win, .int .i64 e.x, .int .i64 e.y, .int .i64 e.a, .int .i64 e.e, .string e.name])) (hg : (wb.alloc (.cells #[.int .i64 e.kind, .int .i64 e.win, .int .i64 e.x, .int .i64 e.y, .int .i64 e.a, .int .i64 e.e, .string e.name] 71)).drew.grownBy W (Value.slice p n c).ownBlock)
        (hgg : (Value.slice p n c).ownBlock = some g' ∨ g' = (wb.alloc (.cells #[.int .i64 e.kind, .int .i64 e.win, .int .i64 e.x, .int .i64 e.y, .int .i64 e.a, .int .i64 e.e, .string e.name] 71)).drew.heap.size) => (show SrvTo w s Y (X.tell e) k (W.setCell ⟨s, 4, none⟩ (.slice (some ⟨g', 0, none⟩) (n + 1) cap')) from by
      rw [hX]
      refine h.told (hWa.on HB.out HB.out.size) (by rw [hwv, ← hn]; exact hg) (by
        unfold OwK
        rw [List.length_append, List.flatMap_append, ← hn]
        exact ho) (fun r hr => ?_)
      obtain rfl : g' = r := by simpa [Value.ownBlock] using hr
      rcases hgg with e1 | e1
      · exact .inl (by rw [hwv, ← hn]; exact e1)
      · have := HB.out.size
        have := hWa.size
        exact .inr (by omega)))
     clear h hs ha hWa hbel hbx hX hn hwv hl hG a0 a1 a2 a3 a5 a6
     go_enter Tryz.func110, Tryz.ntmps110
     go_upto_region 1 with fail
     rw [← HW.out]
     clear hwb
     go_upto_region 2 with fail
     go_region_law ((refine step_append_lies _ rfl (.tmp 20) (.tmp 22) 57 rfl 0 71 i0 (.agg #[.int .i64 0, .int .i64 0, .int .i64 0, .int .i64 0, .int .i64 0, .int .i64 0, .string ByteArray.empty]) 7 64 Tryz.underlying57 hi0 hz0 hz1 hz2 rfl (by decide) _ _ _ rfl HR.out ⟨_, 0, none⟩ 1 1 [.int .i64 e.kind, .int .i64 e.win, .int .i64 e.x, .int .i64 e.y, .int .i64 e.a, .int .i64 e.e, .string e.name] rfl rfl (fun j' u' hu' => cell_list7 _ _ _ _ _ _ _ _ _ j' u' hu') (fun u hu => ?_) (by decide) (by unfold maxLen; omega) (by omega) (Nat.zero_le _) _ rfl ?_; (simp only [List.mem_cons, List.not_mem_nil, or_false] at hu; rcases hu with rfl | rfl | rfl | rfl | rfl | rfl | rfl <;> rfl); intro g' cap' w7 ho hg' hgg _; obtain ⟨q0, q1⟩ := HK.out w7 hg'; have HQ := Lib.hid (HG2.out w7 g' cap' ho hg' hgg)))
     all_goals
      generalize w7.setCell ⟨s, 4, none⟩ (.slice (some ⟨g', 0, none⟩) (n + 1) cap') = W8 at HQ ⊢
      go_wp2_with fail
      go_end0
      exact ⟨rfl, HQ.out⟩
   · have hl1 : ¬ (n : Int) < 4096 := by omega
     have hX : X.tell e = X := by unfold Xs.tell; rw [if_neg (fun hh => hl (by rw [hn]; exact hh.2))]
     have HQ := Lib.hid (show SrvTo w s Y (X.tell e) k wb from by rw [hX]; exact SrvTo.same h hbel)
     clear h hs hbel hbx hX hn hwv hl hG
     go_enter Tryz.func110, Tryz.ntmps110
     go_upto_region 1 with fail
     rw [← HW.out]
     clear hwb
     go_wp2_with fail
     go_end0
     exact ⟨rfl, HQ.out⟩
 · have hG' : X.G = false := by simpa using hG
   rw [hG'] at b6
   have hX : X.tell e = X := by unfold Xs.tell; rw [if_neg (fun hh => hG hh.1)]
   have HQ := Lib.hid (show SrvTo w s Y (X.tell e) k wb from by rw [hX]; exact SrvTo.same h hbel)
   clear h hs hbel hbx hX hn hwv hG hG'
   go_enter Tryz.func110, Tryz.ntmps110
   go_upto_region 1 with fail
   rw [← HW.out]
   clear hwb
   go_wp2_with fail
   go_end0
   exact ⟨rfl, HQ.out⟩
theorem events_c (h : Srv w s Y X k) : Calls Tryz.prog 24 #[srvP s] w fun ex w' => ex = .returned Y.wv ∧ OwK encE 71 7 w' 0 Y.wv X.E ∧ SrvTo w s Y { X with E := [] } k w' := by
 obtain ⟨⟨b0, b1, b2, b3, b4, b5, b6⟩, ⟨z0, z1, z2, z3, z4, z5, z6⟩⟩ := h.blk.c7
 have HQ := Lib.hid (h.told (Below.refl _ w) (World.grownBy.refl w _) (OwK.nil w 0) (fun r hr => by cases hr))
 have HO := Lib.hid (row_kept (w' := w.setCell ⟨s, 4, none⟩ (.slice none 0 0)) h.row fun b hb => Below.heap_setCell w _ _ b (fun e => h.row_ne (by rw [hb, show b = s from e])))
 obtain ⟨p, c, hwv⟩ := h.row.slice
 rw [hwv] at b4
 rw [hwv] at HO
 rw [hwv]
 clear h hwv
 go_enter Tryz.func24, Tryz.ntmps24
 go_wp2_with fail
 go_ret
 exact ⟨rfl, HO.out, HQ.out⟩
theorem Srv.managed (h : Srv w s Y X k) (b : Bool) : SrvTo w s Y { X with G := b } k (w.setCell ⟨s, 6, none⟩ (.bool b)) := by
 obtain ⟨col, h⟩ := h
 obtain ⟨h1, h2⟩ := h.cell 6 (.bool b)
 exact ⟨Y, ⟨_, SrvR.as (X := X) (X' := { X with G := b }) h1 rfl rfl rfl rfl⟩, h2⟩
theorem start_c (h : Srv w s Y X k) : Calls Tryz.prog 32 #[srvP s] w fun ex w' => ex = .returned (.int .i64 (if X.G = true then 8 else 0)) ∧ SrvTo w s Y { X with G := true } k w' := by
 obtain ⟨⟨b0, b1, b2, b3, b4, b5, b6⟩, ⟨z0, z1, z2, z3, z4, z5, z6⟩⟩ := h.blk.c7
 have H := Lib.hid (windows_c h)
 cases hG : X.G with
 | true =>
  rw [hG] at b6
  have HQ := Lib.hid (show SrvTo w s Y { X with G := true } k w from by
   rw [show ({ X with G := true } : Xs) = X by rw [← hG]]
   exact SrvTo.same h (Below.refl _ _))
  clear h hG
  go_enter Tryz.func32, Tryz.ntmps32
  go_wp2_with (go_at_call 43; ((with_reducible refine (H.out).mono ?_); rintro e w' ⟨rfl, rfl⟩))
  go_ret
  exact ⟨rfl, HQ.out⟩
 | false =>
  rw [hG] at b6
  have HQ := Lib.hid (h.managed true)
  clear h hG
  go_enter Tryz.func32, Tryz.ntmps32
  go_wp2_with (go_at_call 43; ((with_reducible refine (H.out).mono ?_); rintro e w' ⟨rfl, rfl⟩))
  go_ret
  exact ⟨rfl, HQ.out⟩
theorem setfocus_c (h : Srv w s Y X k) (hS : Sane X.R X.L m) {i : Int} (hi : I64 i) : Calls Tryz.prog 94 #[srvP s, .int .i64 i] w fun ex w' => ex = .returned (.int .i64 (if i ≠ 0 ∧ viewL X.R X.L i = false then 8 else 0)) ∧ SrvTo w s Y (if i ≠ 0 ∧ viewL X.R X.L i = false then X else { X with F := i }) k w' := by
 obtain ⟨⟨b0, b1, b2, b3, b4, b5, b6⟩, ⟨z0, z1, z2, z3, z4, z5, z6⟩⟩ := h.blk.c7
 have HV := (shows_all hS hi).cview w _ _ h.tree
 by_cases h0 : i = 0
 · subst h0
   rw [if_neg (by simp), if_neg (by simp)]
   have HQ := Lib.hid (h.focused 0)
   clear h hS hi HV
   go_enter Tryz.func94, Tryz.ntmps94
   go_wp2_with fail
   go_ret
   exact ⟨rfl, HQ.out⟩
 · have h1 : (i == 0) = false := by simpa using h0
   cases hv : viewL X.R X.L i with
   | true =>
    rw [hv] at HV
    rw [if_neg (by simp), if_neg (by simp)]
    have HQ := Lib.hid (h.focused i)
    have HH := Lib.hid HV
    clear h hS hi HV h0
    go_enter Tryz.func94, Tryz.ntmps94
    go_wp2_with (go_at_call 44; ((with_reducible refine (HH.out).mono ?_); rintro e w' ⟨rfl, rfl⟩))
    go_ret
    exact ⟨rfl, HQ.out⟩
   | false =>
    rw [hv] at HV
    rw [if_pos ⟨h0, rfl⟩, if_pos ⟨h0, rfl⟩]
    have HQ := Lib.hid (SrvTo.same h (Below.refl _ _))
    have HH := Lib.hid HV
    clear h hS hi HV h0
    go_enter Tryz.func94, Tryz.ntmps94
    go_wp2_with (go_at_call 44; ((with_reducible refine (HH.out).mono ?_); rintro e w' ⟨rfl, rfl⟩))
    go_ret
    exact ⟨rfl, HQ.out⟩
end
end Go.Proofs.YtnhchpiafchdgaaGreat
namespace Go.Proofs.YtnhchpiafchdgaaGreat
open Go.RowKit Go.Shelf Go.Maps
def inL (L : List Win) (i : Int) : Prop := ∃ v ∈ L, v.id = i
def inM (M : List Md) (i : Int) : Prop := ∃ m ∈ M, m.win = i
structure V0 (X : Xs) (k : Nat) : Prop where
 s : Sane X.R X.L k
 up : X.M.Pairwise (fun a b => a.win < b.win)
 same : ∀ i, inL X.L i ↔ inM X.M i
 own : ∀ m ∈ X.M, 0 ≤ m.own ∧ m.own ≤ 9223372036854775807 ∧ (m.sav = true → m.own ≠ 0)
 ev : X.E.length ≤ 4096
 h : Pp.HOk X.H
 hl : X.H.length ≤ k
 f64 : I64 X.F
structure V (X : Xs) (k : Nat) : Prop extends V0 X k where
 foc : X.F = 0 ∨ viewL X.R X.L X.F = true
theorem isL_iff (L : List Win) (i : Int) : isL L i = true ↔ i = 0 ∨ inL L i := by
 unfold isL
 rw [Bool.or_eq_true, beq_iff_eq]
 refine or_congr_right ?_
 constructor
 · intro h
   obtain ⟨j, hj⟩ := Option.isSome_iff_exists.1 h
   obtain ⟨v, h1, h2, _⟩ := placeN_get L j hj
   exact ⟨v, List.mem_of_getElem? h1, h2⟩
 · rintro ⟨v, hv, rfl⟩
   cases hp : placeN v.id L with
   | some j => rfl
   | none => exact absurd rfl (placeN_none L hp v hv)
theorem there_iff (R : RT) (L : List Win) (i : Int) : thereL R L i = true ↔ i = 0 ∨ inL L i := by rw [← isL_there, isL_iff]
theorem ask_iff (L : List Win) (i : Int) : askL L i = 0 ↔ i ≠ 0 ∧ inL L i := by
 unfold askL
 cases hi : isL L i with
 | false =>
  rw [if_pos rfl]
  have h : ¬ (i = 0 ∨ inL L i) := fun h => by rw [(isL_iff L i).2 h] at hi; cases hi
  constructor
  · intro e; omega
  · rintro ⟨-, h2⟩; exact absurd (.inr h2) h
 | true =>
  rw [if_neg (by simp)]
  have h := (isL_iff L i).1 hi
  by_cases h0 : i = 0
  · rw [if_pos h0]
    constructor
    · intro e; omega
    · rintro ⟨h1, -⟩; exact absurd h0 h1
  · rw [if_neg h0]
    rcases h with h | h
    · exact absurd h h0
    · exact ⟨fun _ => ⟨h0, h⟩, fun _ => rfl⟩
theorem mfind_in {M : List Md} (hu : M.Pairwise (fun a b => a.win < b.win)) {m : Md} (hm : m ∈ M) : findM m.win M = some m := by
 unfold findM
 induction M with
 | nil => cases hm
 | cons a t ih =>
  rw [List.pairwise_cons] at hu
  rw [List.find?_cons]
  rcases List.mem_cons.1 hm with rfl | hm
  · simp
  · have := hu.1 m hm
    rw [show decide (a.win = m.win) = false by simp; omega]
    exact ih hu.2 hm
theorem mfind_mem {M : List Md} {i : Int} {m : Md} (h : findM i M = some m) : m ∈ M ∧ m.win = i := by
 unfold findM at h
 exact ⟨List.mem_of_find?_eq_some h, by simpa using List.find?_some h⟩
theorem mfind_none {M : List Md} {i : Int} : findM i M = none ↔ ¬ inM M i := by
 unfold findM inM
 rw [List.find?_eq_none]
 constructor
 · rintro h ⟨m, hm, e⟩
   exact h m hm (by simpa using e)
 · intro h m hm e
   exact h ⟨m, hm, by simpa using e⟩
theorem mfind_some {M : List Md} {i : Int} (h : inM M i) : ∃ m, findM i M = some m ∧ m ∈ M ∧ m.win = i := by
 cases hf : findM i M with
 | none => exact absurd h (mfind_none.1 hf)
 | some m => exact ⟨m, rfl, mfind_mem hf⟩
theorem mfind_drop {M : List Md} (i j : Int) : findM j (dropM i M) = if j = i then none else findM j M := by
 split
 · next e =>
   subst e
   rw [mfind_none]
   rintro ⟨m, hm, e⟩
   unfold dropM at hm
   simp at hm
   exact hm.2 e
 · next hne =>
   unfold findM dropM
   induction M with
   | nil => rfl
   | cons a t ih =>
    rw [List.filter_cons, List.find?_cons]
    by_cases h1 : a.win = i
    · rw [if_neg (by simp [h1]), ih]
      have : ¬ a.win = j := fun e => hne (by omega)
      simp [this]
    · rw [if_pos (by simp [h1]), List.find?_cons]
      by_cases h2 : a.win = j
      · simp [h2]
      · simp only [h2, decide_false]; exact ih
theorem mfind_sav {M : List Md} (i j : Int) (on : Bool) : findM j (setSav i on M) = (findM j M).map (fun m => if m.win = i then ⟨m.win, m.own, on⟩ else m) := by
 unfold findM setSav
 rw [List.find?_map]
 have : ((fun m : Md => decide (m.win = j)) ∘ fun m : Md => if m.win = i then (⟨m.win, m.own, on⟩ : Md) else m) = fun m => decide (m.win = j) := by
  funext m
  simp only [Function.comp]
  split <;> rfl
 rw [this]
theorem mfind_snoc {M : List Md} (m : Md) (hn : ¬ inM M m.win) (j : Int) : findM j (M ++ [m]) = if j = m.win then some m else findM j M := by
 unfold findM
 rw [List.find?_append]
 split
 · next e =>
   subst e
   rw [show List.find? (fun m_1 : Md => decide (m_1.win = m.win)) M = none from mfind_none.2 hn]
   simp
 · next hne =>
   have : List.find? (fun m : Md => decide (m.win = j)) [m] = none := by
    rw [List.find?_cons]
    rw [show decide (m.win = j) = false by simp; omega]
    rfl
   rw [this]; simp
theorem own_none {M : List Md} {i : Int} (h : ¬ inM M i) : ownM i M = -1 := by unfold ownM; rw [mfind_none.2 h]
theorem own_of {M : List Md} {i : Int} {m : Md} (h : findM i M = some m) : ownM i M = m.own := by unfold ownM; rw [h]
theorem dropM_mem {M : List Md} {i : Int} {m : Md} : m ∈ dropM i M ↔ m ∈ M ∧ m.win ≠ i := by unfold dropM; simp
theorem sav_mem {M : List Md} {i : Int} {on : Bool} {m : Md} (h : m ∈ setSav i on M) : ∃ m0 ∈ M, m0.win = m.win ∧ m0.own = m.own ∧ (m.sav = m0.sav ∨ (m0.win = i ∧ m.sav = on)) := by
 unfold setSav at h
 obtain ⟨m0, h0, rfl⟩ := List.mem_map.1 h
 refine ⟨m0, h0, ?_⟩
 split
 · next e => exact ⟨rfl, rfl, .inr ⟨e, rfl⟩⟩
 · exact ⟨rfl, rfl, .inl rfl⟩
theorem inM_sav {M : List Md} (i : Int) (on : Bool) (j : Int) : inM (setSav i on M) j ↔ inM M j := by
 unfold inM setSav
 constructor
 · rintro ⟨m, hm, rfl⟩
   obtain ⟨m0, h0, rfl⟩ := List.mem_map.1 hm
   refine ⟨m0, h0, ?_⟩
   split <;> rfl
 · rintro ⟨m, hm, rfl⟩
   refine ⟨_, List.mem_map.2 ⟨m, hm, rfl⟩, ?_⟩
   split <;> rfl
theorem up_sav {M : List Md} (h : M.Pairwise (fun a b => a.win < b.win)) (i : Int) (on : Bool) : (setSav i on M).Pairwise (fun a b => a.win < b.win) := by
 unfold setSav
 rw [List.pairwise_map]
 refine h.imp fun {a b} hab => ?_
 split <;> split <;> exact hab
theorem inL_put {f : Win → Win} (hf : ∀ v, (f v).id = v.id) (i : Int) (L : List Win) (j : Int) : inL (putW f i L) j ↔ inL L j := by
 unfold putW
 split
 · rfl
 · next q hq =>
   split
   · rfl
   · next v hv =>
     have hm : (L.set q (f v)).map (·.id) = L.map (·.id) := by
      rw [List.map_set, hf]
      obtain ⟨hl, he⟩ := List.getElem?_eq_some_iff.1 hv
      have : (L.map (·.id))[q]'(by simpa using hl) = v.id := by simp [he]
      rw [← this]
      exact List.set_getElem_self _
     have e : ∀ K : List Win, inL K j ↔ j ∈ K.map (·.id) := fun K => by unfold inL; rw [List.mem_map]
     rw [e, e, hm]
theorem find_id {i : Int} {L : List Win} {v : Win} (h : findL i L = some v) : v ∈ L ∧ v.id = i := by
 unfold findL at h
 cases hp : placeN i L with
 | none => rw [hp] at h; cases h
 | some k =>
  rw [hp] at h
  obtain ⟨u, h1, h2, _⟩ := placeN_get L k hp
  rw [show L[k]? = some v from h] at h1
  injection h1 with h1
  subst h1
  exact ⟨List.mem_of_getElem? h, h2⟩
theorem inL_drop (i : Int) (L : List Win) (j : Int) : inL (dropL i L) j ↔ inL L j ∧ j ≠ i := by
 unfold inL
 constructor
 · rintro ⟨v, hv, rfl⟩
   exact ⟨⟨v, (drop_mem.1 hv).1, rfl⟩, (drop_mem.1 hv).2⟩
 · rintro ⟨⟨v, hv, rfl⟩, hn⟩
   exact ⟨v, drop_mem.2 ⟨hv, hn⟩, rfl⟩
theorem inL_app (A B : List Win) (j : Int) : inL (A ++ B) j ↔ inL A j ∨ inL B j := by
 unfold inL
 constructor
 · rintro ⟨v, hv, e⟩
   rcases List.mem_append.1 hv with h | h
   · exact .inl ⟨v, h, e⟩
   · exact .inr ⟨v, h, e⟩
 · rintro (⟨v, hv, e⟩ | ⟨v, hv, e⟩)
   · exact ⟨v, List.mem_append_left _ hv, e⟩
   · exact ⟨v, List.mem_append_right _ hv, e⟩
theorem inL_one (v : Win) (j : Int) : inL [v] j ↔ j = v.id := by
 unfold inL
 constructor
 · rintro ⟨u, hu, rfl⟩; rw [List.mem_singleton.1 hu]
 · rintro rfl; exact ⟨v, List.mem_singleton.2 rfl, rfl⟩
theorem inL_map (on : Bool) (i : Int) (L : List Win) (j : Int) : inL (tMap on i L).1 j ↔ inL L j := by
 unfold tMap; split
 · rfl
 · exact inL_put (f := fun v => ⟨v.id, v.par, v.x, v.y, v.w, v.h, on⟩) (fun _ => rfl) i L j
theorem inL_conf (i x y a e : Int) (L : List Win) (j : Int) : inL (tConf i x y a e L).1 j ↔ inL L j := by
 unfold tConf; split
 · rfl
 · split
   · rfl
   · exact inL_put (f := fun v => ⟨v.id, v.par, x, y, a, e, v.on⟩) (fun _ => rfl) i L j
theorem back_in {i : Int} {L : List Win} {v : Win} (h : findL i L = some v) (j : Int) : (inL (dropL i L) j ∨ j = i) ↔ inL L j := by
 rw [inL_drop]
 obtain ⟨h1, h2⟩ := find_id h
 constructor
 · rintro (h | h)
   · exact h.1
   · rw [h]; exact ⟨v, h1, h2⟩
 · intro h
   by_cases e : j = i
   · exact .inr e
   · exact .inl ⟨h, e⟩
theorem inL_raise (i : Int) (L : List Win) (j : Int) : inL (tRaise i L).1 j ↔ inL L j := by
 unfold tRaise; split
 · rfl
 · dsimp only
   split
   · rfl
   · next v hv => rw [inL_app, inL_one, (find_id hv).2, back_in hv]
theorem inL_lower (i : Int) (L : List Win) (j : Int) : inL (tLower i L).1 j ↔ inL L j := by
 unfold tLower; split
 · rfl
 · dsimp only
   split
   · rfl
   · next v hv => rw [show v :: dropL i L = [v] ++ dropL i L from rfl, inL_app, inL_one, (find_id hv).2, Or.comm, back_in hv]
theorem inL_repar (R : RT) (i q x y : Int) (L : List Win) (j : Int) : inL (tRepar R i q x y L).1 j ↔ inL L j := by
 unfold tRepar
 split
 · rfl
 · split
   · rfl
   · split
     · rfl
     · split
       · rfl
       · next v hv =>
         split
         · rfl
         · dsimp only
           rw [inL_app, inL_one, back_in hv]
theorem inL_dropAll (gs : List Int) (L : List Win) (j : Int) : inL (dropAll gs L) j ↔ inL L j ∧ j ∉ gs := by
 unfold inL
 constructor
 · rintro ⟨v, hv, rfl⟩
   exact ⟨⟨v, ((dropAll_mem gs).1 hv).1, rfl⟩, ((dropAll_mem gs).1 hv).2⟩
 · rintro ⟨⟨v, hv, rfl⟩, hn⟩
   exact ⟨v, (dropAll_mem gs).2 ⟨hv, hn⟩, rfl⟩
section
variable {X : Xs} {k : Nat}
theorem V0.le (h : V0 X k) {m : Nat} (hk : k ≤ m) (hm : m ≤ 1000) : V0 X m := ⟨h.s.le hk hm, h.up, h.same, h.own, h.ev, h.h, Nat.le_trans h.hl hk, h.f64⟩
theorem V.le (h : V X k) {m : Nat} (hk : k ≤ m) (hm : m ≤ 1000) : V X m := ⟨h.toV0.le hk hm, h.foc⟩
theorem i64_zero : I64 0 := ⟨by decide, by decide⟩
theorem V0.look (h : V0 X k) : V X.look k := by
 unfold Xs.look
 split
 · exact ⟨⟨h.s, h.up, h.same, h.own, h.ev, h.h, h.hl, i64_zero⟩, .inl rfl⟩
 · next hn =>
   refine ⟨h, ?_⟩
   by_cases h0 : X.F = 0
   · exact .inl h0
   · refine .inr ?_
     cases hv : viewL X.R X.L X.F with
     | true => rfl
     | false => exact absurd ⟨h0, hv⟩ hn
theorem V0.tell (h : V0 X k) (e : Ev) : V0 (X.tell e) k := by
 unfold Xs.tell
 split
 · next hh => exact ⟨h.s, h.up, h.same, h.own, by simp; omega, h.h, h.hl, h.f64⟩
 · exact h
theorem V0.tree (h : V0 X k) {R' : RT} {L' : List Win} (hs : Sane R' L' k) (hi : ∀ j, inL L' j ↔ inL X.L j) : V0 { X with R := R', L := L' } k :=
 ⟨hs, h.up, fun i => (hi i).trans (h.same i), h.own, h.ev, h.h, h.hl, h.f64⟩
theorem V0.props (h : V0 X k) (i : Int) (p : Pp.Pr) (hk : k + 1 ≤ 1000) : V0 { X with H := Pp.sH X.H i p } (k + 1) :=
 ⟨h.s.le (Nat.le_succ k) hk, h.up, h.same, h.own, h.ev, h.h.set i p, by
  have h1 := Pp.setR_len X.H (Pp.msH X.H) (Pp.nsH X.H) i p
  have h2 := h.hl
  show (Pp.setR X.H (Pp.msH X.H) (Pp.nsH X.H) i p).length ≤ k + 1
  omega, h.f64⟩
theorem V0.focus (h : V0 X k) {i : Int} (hi : I64 i) : V0 { X with F := i } k := ⟨h.s, h.up, h.same, h.own, h.ev, h.h, h.hl, hi⟩
theorem V0.manage (h : V0 X k) (b : Bool) : V0 { X with G := b } k := ⟨h.s, h.up, h.same, h.own, h.ev, h.h, h.hl, h.f64⟩
theorem V0.events (h : V0 X k) : V0 { X with E := [] } k := ⟨h.s, h.up, h.same, h.own, by simp, h.h, h.hl, h.f64⟩
theorem V0.setsav (h : V0 X k) {i : Int} {on : Bool} (ho : on = true → ownM i X.M ≠ 0) : V0 { X with M := setSav i on X.M } k := by
 refine ⟨h.s, up_sav h.up i on, fun j => (h.same j).trans (inM_sav i on j).symm, fun m hm => ?_, h.ev, h.h, h.hl, h.f64⟩
 obtain ⟨m0, h0, e1, e2, e3⟩ := sav_mem hm
 obtain ⟨o1, o2, o3⟩ := h.own m0 h0
 rw [← e2]
 refine ⟨o1, o2, fun hs => ?_⟩
 rcases e3 with e3 | ⟨e3, e4⟩
 · exact o3 (e3 ▸ hs)
 · have := ho (e4 ▸ hs)
   rw [own_of (by rw [← e3]; exact mfind_in h.up h0)] at this
   exact this
theorem V0.created (h : V0 X k) {R' : RT} {L' : List Win} {id actor : Int} (hs : Sane R' L' (k + 1)) (hL : L' = X.L ++ [⟨id, 0, 0, 0, 0, 0, false⟩] ∨ ∃ q x y a e, L' = X.L ++ [⟨id, q, x, y, a, e, false⟩]) (hid : X.R.last < id) (ha : 0 ≤ actor ∧ actor ≤ 9223372036854775807) : V0 { X with R := R', L := L', M := X.M ++ [⟨id, actor, false⟩] } (k + 1) := by
 have hin : ∀ j, inL L' j ↔ inL X.L j ∨ j = id := fun j => by
   rcases hL with rfl | ⟨q, x, y, a, e, rfl⟩ <;> rw [inL_app, inL_one]
 have hlt : ∀ m ∈ X.M, m.win < id := fun m hm => by
   obtain ⟨v, hv, e⟩ := (h.same m.win).2 ⟨m, hm, rfl⟩
   have := (h.s.pos v hv).2
   omega
 refine ⟨hs, ?_, fun j => ?_, fun m hm => ?_, h.ev, h.h, by have := h.hl; show X.H.length ≤ k + 1; omega, h.f64⟩
 · rw [List.pairwise_append]
   exact ⟨h.up, List.pairwise_singleton _ _, fun a hm b hb => by rw [List.mem_singleton.1 hb]; exact hlt a hm⟩
 · rw [hin, h.same]
   unfold inM
   constructor
   · rintro (⟨m, hm, e⟩ | e)
     · exact ⟨m, List.mem_append_left _ hm, e⟩
     · exact ⟨_, List.mem_append_right _ (List.mem_singleton.2 rfl), e.symm⟩
   · rintro ⟨m, hm, e⟩
     rcases List.mem_append.1 hm with h1 | h1
     · exact .inl ⟨m, h1, e⟩
     · rw [List.mem_singleton.1 h1] at e
       exact .inr e.symm
 · rcases List.mem_append.1 hm with h1 | h1
   · exact h.own m h1
   · rw [List.mem_singleton.1 h1]
     exact ⟨ha.1, ha.2, fun e => by cases e⟩
end
end Go.Proofs.YtnhchpiafchdgaaGreat
