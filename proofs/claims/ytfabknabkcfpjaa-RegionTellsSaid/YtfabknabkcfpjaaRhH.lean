/- lay: a band put below the others. -/
import Derived.Test.YtfabknabkcfpjaaRhE
import Derived.Test.YtfabknabkcfpjaaRhG
import Derived.Laws.AppendOwnNone
namespace Go.Proofs.Ytfabknabkcfpjaa
open Go.RowKit Go.Shelf
/-- A form in memory. -/
def Fm (w : World) (gf base : Nat) (v : Value) (rs : List Rc) (last : Nat) : Prop :=
  Blk w gf 63 #[v, .int .i64 last] ∧ OwK encR 40 4 w base v rs ∧ last ≤ rs.length
section
variable {w w' : World} {gf base : Nat} {v : Value} {rs : List Rc} {last : Nat}
theorem Fm.next (h : Fm w gf base v rs last) (hb : Below w.heap.size w w') : Fm w' gf base v rs last := ⟨h.1.next hb, h.2.1.below hb, h.2.2⟩
theorem Fm.drew (h : Fm w gf base v rs last) : Fm w.drew gf base v rs last := h
end
theorem OwK.reads_drew {w : World} {base : Nat} {v : Value} {rs : List Rc} (h : OwK encR 40 4 w base v rs) : RdK encR 4 w.drew v rs := (OwK.reads encR_len h).drew
/-- A rectangle made higher. -/
def upR (r : Rc) (h : Int) : Rc := ⟨r.x, r.y, r.w, r.h + h⟩
/-- The last band's first i made higher. -/
def hUp (rs : List Rc) (last : Nat) (runs : List Rc) : Nat → List Rc
  | 0 => rs
  | i + 1 => match rs[last + i]?, runs[i]? with
    | some a, some b => (hUp rs last runs i).set (last + i) (upR a b.h)
    | _, _ => hUp rs last runs i
def layR (rs : List Rc) (last : Nat) (runs : List Rc) : List Rc := if eqR (rs.drop last) runs = true then hUp rs last runs runs.length else rs ++ runs
def layL (rs : List Rc) (last : Nat) (runs : List Rc) : Nat := if eqR (rs.drop last) runs = true then last else rs.length
theorem hUp_len (rs : List Rc) (last : Nat) (runs : List Rc) (i : Nat) : (hUp rs last runs i).length = rs.length := by
  induction i with
  | zero => rfl
  | succ i ih => unfold hUp; split <;> simp [ih]
theorem hUp_get {rs : List Rc} {last : Nat} {runs : List Rc} : ∀ (i j : Nat), i ≤ j → (hUp rs last runs i)[last + j]? = rs[last + j]?
  | 0, _, _ => rfl
  | i + 1, j, h => by
    have ih := hUp_get (rs := rs) (last := last) (runs := runs) i j (by omega)
    unfold hUp
    split
    · rw [List.getElem?_set_ne (by omega), ih]
    · exact ih
theorem hUp_next {rs : List Rc} {last : Nat} {runs : List Rc} {i : Nat} {a b : Rc} (h1 : rs[last + i]? = some a) (h2 : runs[i]? = some b) : hUp rs last runs (i + 1) = (hUp rs last runs i).set (last + i) (upR a b.h) := by
  show (match rs[last + i]?, runs[i]? with | some a, some b => _ | _, _ => _) = _
  rw [h1, h2]
/-- What is left of the last band, as it is read. -/
theorem drop_reads {w : World} {base : Nat} {p : Option Addr} {n c last : Nat} {rs : List Rc} (h : OwK encR 40 4 w base (.slice p n c) rs) (hn : rs.length = n) (hl : last ≤ n) :
    RdK encR 4 w (.slice (if c = last then p else Option.map (fun x => x.add (last * 4)) p) (n - last) (c - last)) (rs.drop last) := by
  refine ⟨_, _, by rw [List.length_drop, hn], fun j x hx => ?_⟩
  rw [List.getElem?_drop] at hx
  have hj := (List.getElem?_eq_some_iff.1 hx).1
  have hne : rs ≠ [] := fun e => by rw [e] at hj; simp at hj
  have hcap : n ≤ c := by
    obtain ⟨_, h1⟩ := h
    rcases h1 with ⟨h2, h3⟩ | ⟨g, cap, cur, h2, _, _, h3, _⟩
    · omega
    · simp only [Value.slice.injEq] at h2
      omega
  obtain ⟨g, cap, hv, _, hlt, hc, _⟩ := h.form encR_len hne
  simp only [Value.slice.injEq] at hv
  obtain ⟨rfl, _, rfl⟩ := hv
  refine ⟨g, last * 4, ?_, hlt, fun i u hu => ?_⟩
  · rw [if_neg (by omega)]
    simp [Addr.add] <;> omega
  · have := hc (last + j) x i u hx hu
    rw [show last * 4 + j * 4 + i = (last + j) * 4 + i by omega]
    exact this
theorem flat_set3 (rs : List Rc) (j : Nat) (r : Rc) (h : Int) (hj : rs[j]? = some r) : (rs.flatMap encR).set (j * 4 + 3) (.int .i64 (r.h + h)) = (rs.set j (upR r h)).flatMap encR := by
  rw [← flat_set rs j (upR r h) (List.getElem?_eq_some_iff.1 hj).1]
  have e0 := flat_get encR_len rs j r 0 _ hj rfl
  have e1 := flat_get encR_len rs j r 1 _ hj rfl
  have e2 := flat_get encR_len rs j r 2 _ hj rfl
  apply List.ext_getElem?
  intro k
  simp only [List.getElem?_set, List.length_set, upR]
  by_cases k3 : j * 4 + 3 = k
  · simp [k3]
  · rw [if_neg k3, if_neg k3]
    by_cases k2 : j * 4 + 2 = k
    · subst k2; rw [e2, if_pos rfl, if_pos (List.getElem?_eq_some_iff.1 e2).1]
    · rw [if_neg k2]
      by_cases k1 : j * 4 + 1 = k
      · subst k1; rw [e1, if_pos rfl, if_pos (List.getElem?_eq_some_iff.1 e1).1]
      · rw [if_neg k1]
        by_cases k0 : j * 4 = k
        · subst k0; rw [Nat.add_zero] at e0; rw [e0, if_pos rfl, if_pos (List.getElem?_eq_some_iff.1 e0).1]
        · rw [if_neg k0]
theorem OwK.off {α : Type} {enc : α → List Value} {T T' : TypeId} {k : Nat} {w : World} {base : Nat} {v : Value} {xs : List α} {g : Nat} {cs : Array Value} (h : OwK enc T k w base v xs) (hb : Blk w g T' cs) (hT : T ≠ T') : v.ownBlock ≠ some g := by
  obtain ⟨_, h1⟩ := h
  rcases h1 with ⟨rfl, _⟩ | ⟨g', cap, cur, rfl, _, hg, _⟩
  · intro e; cases e
  · intro e
    injection e with e
    subst e
    exact (Blk.ne_ (w := w) (g := g') (g' := g') hg hb hT) rfl
theorem OwK.set_off {α : Type} {enc : α → List Value} {T : TypeId} {k : Nat} {w : World} {base : Nat} {v : Value} {xs : List α} {g : Nat} (h : OwK enc T k w base v xs) (hne : v.ownBlock ≠ some g) (i : Nat) (u : Value) : OwK enc T k (w.setCell ⟨g, i, none⟩ u) base v xs :=
  h.grown (only_setCell (only_refl _ (some g)) (.inl rfl) _) (.inr hne)
theorem own_slice {w : World} {base : Nat} {T : TypeId} {k : Nat} {v : Value} {n : Nat} {xs : List Value} (h : w.ownsRow base T k v n xs) : ∃ p c, v = .slice p n c := by
  obtain ⟨_, h1⟩ := h
  rcases h1 with ⟨rfl, rfl⟩ | ⟨g, cap, cur, rfl, _⟩
  · exact ⟨_, _, rfl⟩
  · exact ⟨_, _, rfl⟩
/-- What lay keeps. -/
def Lst2 (w0 : World) (gf base baser : Nat) (v rv : Value) (rs : List Rc) (last : Nat) (runs : List Rc) (wx : World) : Prop :=
  Fm wx gf base v rs last ∧ OwK encR 40 4 wx baser rv runs ∧ Kept (fun i => i ≠ gf ∧ v.ownBlock ≠ some i) w0 wx
set_option maxRecDepth 100000 in
set_option maxHeartbeats 4000000 in
theorem lay_c (gf base baser : Nat) (v rv : Value) (rs runs : List Rc) (last : Nat) (w : World) (hF : Fm w gf base v rs last) (hR : OwK encR 40 4 w baser rv runs)
    (hne : ∀ g, v.ownBlock = some g → rv.ownBlock ≠ some g) (hbase : base ≤ w.heap.size) (hn : rs.length ≤ 262144) (hm : runs.length ≤ 262144) (hh : ∀ r ∈ rs, 0 ≤ r.h ∧ r.h ≤ 1099511627776) (hh' : ∀ r ∈ runs, 0 ≤ r.h ∧ r.h ≤ 1099511627776) :
    Calls Try.prog 41 #[.pointer (some ⟨gf, 0, none⟩), rv] w fun e w' => e = .returned (.tuple #[]) ∧ ∃ v', Fm w' gf base v' (layR rs last runs) (layL rs last runs) ∧ Kept (fun i => i ≠ gf ∧ v.ownBlock ≠ some i) w w' ∧ Went w.heap.size v v' := by
  obtain ⟨p, c, rfl⟩ := hF.2.1.slice
  obtain ⟨rp, rc, rfl⟩ := hR.slice
  have hl := hF.2.2
  obtain ⟨n, hln⟩ : ∃ n, n = rs.length := ⟨_, rfl⟩
  obtain ⟨m, hlm⟩ : ∃ m, m = runs.length := ⟨_, rfl⟩
  rw [← hln] at hn hl hF hne ⊢
  rw [← hlm] at hm hR hne ⊢
  have HLN := Lib.hid hln
  have HLM := Lib.hid hlm
  have HNE := Lib.hid hne
  have HH := Lib.hid hh
  have HH2 := Lib.hid hh'
  have hD := drop_reads hF.drew.2.1 hln.symm hl
  obtain ⟨q, hq⟩ : ∃ q, (if c = last then p else Option.map (fun x => x.add (last * 4)) p) = q := ⟨_, rfl⟩
  rw [hq] at hD
  have hE := equal_c _ _ _ _ _ hD hR.reads_drew (by rw [List.length_drop]; omega) (by omega)
  clear hln hlm hne hh hh' hD
  cases hb : eqR (rs.drop last) runs
  · rw [hb] at hE
    have HE := Lib.hid hE
    have HB := Lib.hid hb
    clear hE hb
    go_enter Try.func41, Try.ntmps41
    go_wp2_with fail
    refine wp_region_noPanic ?_
    refine wp_region_held_drew (S := fun wx => wx.cell? ⟨gf, 0, none⟩ = some (.slice p n c) ∧ wx.cell? ⟨gf, 1, none⟩ = some (.int .i64 last)) (by kernel_rfl) (by exact ⟨hF.drew.1.c2.1.1, hF.drew.1.c2.1.2⟩) (fun hHeld => ?_)
    refine wpAnyH_take (i := 0) (v := ?va0) rfl (by kernel_rfl) (by kernel_rfl) (by kernel_rfl) (fun _ _ _ h => h) (Or.inl ⟨by kernel_rfl, ?ya0⟩) (by assumption) ?ra0
    case ya0 => (intro wq hSw; (try dsimp only at hSw); go_simp; (try with_reducible rfl))
    (try simp only [Act.put, List.getElem_toArray, List.getElem_cons_zero, List.setIfInBounds_toArray, List.set_cons_zero, List.set_cons_succ])
    refine wpAnyH_take (i := 1) (v := ?va1) rfl (by kernel_rfl) (by kernel_rfl) (by kernel_rfl) (fun _ _ _ h => h) (Or.inl ⟨by kernel_rfl, ?ya1⟩) (by assumption) ?ra1
    case ya1 => (intro wq hSw; (try dsimp only at hSw); go_simp; (try with_reducible rfl))
    (try simp only [Act.put, List.getElem_toArray, List.getElem_cons_succ, List.getElem_cons_zero, List.setIfInBounds_toArray, List.set_cons_zero, List.set_cons_succ])
    refine wpAnyH_take (i := 2) (v := ?va2) rfl (by kernel_rfl) (by kernel_rfl) (by kernel_rfl) (fun _ _ _ h => h) (Or.inl ⟨by kernel_rfl, ?ya2⟩) (by assumption) ?ra2
    case ya2 => (intro wq hSw; (try dsimp only at hSw); go_simp; (try with_reducible rfl))
    (try simp only [Act.put, List.getElem_toArray, List.getElem_cons_succ, List.getElem_cons_zero, List.setIfInBounds_toArray, List.set_cons_zero, List.set_cons_succ])
    refine wpAnyH_take (i := 3) (v := ?va3) rfl (by kernel_rfl) (by kernel_rfl) (by kernel_rfl) (fun _ _ _ h => h) (Or.inl ⟨by kernel_rfl, ?ya3⟩) (by assumption) ?ra3
    case ya3 => (intro wq hSw; (try dsimp only at hSw); go_simp; (try with_reducible rfl))
    (try simp only [Act.put, List.getElem_toArray, List.getElem_cons_succ, List.getElem_cons_zero, List.setIfInBounds_toArray, List.set_cons_zero, List.set_cons_succ])
    refine wpAnyH_take (i := 4) (v := ?va4) rfl (by kernel_rfl) (by kernel_rfl) (by kernel_rfl) (fun _ _ _ h => h) (Or.inl ⟨by kernel_rfl, ?ya4⟩) (by assumption) ?ra4
    case ya4 => (intro wq hSw; (try dsimp only at hSw); go_simp; (try with_reducible rfl))
    (try simp only [Act.put, List.getElem_toArray, List.getElem_cons_succ, List.getElem_cons_zero, List.setIfInBounds_toArray, List.set_cons_zero, List.set_cons_succ])
    refine wpAnyH_take (i := 5) (v := ?va5) rfl (by kernel_rfl) (by kernel_rfl) (by kernel_rfl) (fun _ _ _ h => h) (Or.inl ⟨by kernel_rfl, ?ya5⟩) (by assumption) ?ra5
    case ya5 => (intro wq hSw; (try dsimp only at hSw); go_simp; (try with_reducible rfl))
    (try simp only [Act.put, List.getElem_toArray, List.getElem_cons_succ, List.getElem_cons_zero, List.setIfInBounds_toArray, List.set_cons_zero, List.set_cons_succ])
    refine wpAnyH_take (i := 6) (v := ?va6) rfl (by kernel_rfl) (by kernel_rfl) (by kernel_rfl) (fun _ _ _ h => h) (Or.inl ⟨by kernel_rfl, ?ya6⟩) (by assumption) ?ra6
    case ya6 => (intro wq hSw; (try dsimp only at hSw); go_simp; (try with_reducible rfl))
    (try simp only [Act.put, List.getElem_toArray, List.getElem_cons_succ, List.getElem_cons_zero, List.setIfInBounds_toArray, List.set_cons_zero, List.set_cons_succ])
    refine wpAnyH_take (i := 7) (v := ?va7) rfl (by kernel_rfl) (by kernel_rfl) (by kernel_rfl) (fun _ _ _ h => h) (Or.inl ⟨by kernel_rfl, ?ya7⟩) (by assumption) ?ra7
    case ya7 => (intro wq hSw; (try dsimp only at hSw); go_simp; (try with_reducible rfl))
    (try simp only [Act.put, List.getElem_toArray, List.getElem_cons_succ, List.getElem_cons_zero, List.setIfInBounds_toArray, List.set_cons_zero, List.set_cons_succ])
    refine wpAnyH_take (i := 8) (v := ?va8) rfl (by kernel_rfl) (by kernel_rfl) (by kernel_rfl) (fun _ _ _ h => h) (Or.inl ⟨by kernel_rfl, ?ya8⟩) (by assumption) ?ra8
    case ya8 => (intro wq hSw; (try dsimp only at hSw); go_simp; (try with_reducible rfl))
    (try simp only [Act.put, List.getElem_toArray, List.getElem_cons_succ, List.getElem_cons_zero, List.setIfInBounds_toArray, List.set_cons_zero, List.set_cons_succ])
    refine wpAnyH_take (i := 9) (v := ?va9) rfl (by kernel_rfl) (by kernel_rfl) (by kernel_rfl) (fun _ _ _ h => h) (Or.inl ⟨by kernel_rfl, ?ya9⟩) (by assumption) ?ra9
    case ya9 => (intro wq hSw; (try dsimp only at hSw); go_simp; (try with_reducible rfl))
    (try simp only [Act.put, List.getElem_toArray, List.getElem_cons_succ, List.getElem_cons_zero, List.setIfInBounds_toArray, List.set_cons_zero, List.set_cons_succ])
    refine wpAnyH_ready (rs := [10]) (by kernel_rfl) (by simp) ?_
    refine AllReadyH.cons rfl (fun K hK => ?_) AllReadyH.nil
    go_simp
    refine (HE.out).mono ?_
    rintro e1 w1 ⟨rfl, hb⟩; have F1 := hF.drew.next hb; have R1 := (show OwK encR 40 4 w.drew baser (.slice rp m rc) runs from hR).below hb
    (try dsimp only)
    refine hK.out _ _ (by exact ⟨F1.1.c2.1.1, F1.1.c2.1.2⟩) (fun hHeld => ?_)
    clear hK K
    (try simp only [Act.put, List.getElem_toArray, List.getElem_cons_succ, List.getElem_cons_zero, List.setIfInBounds_toArray, List.set_cons_zero, List.set_cons_succ])
    refine wpAnyH_done (by kernel_rfl) ?_ _
    refine NoPanic.normal ?_
    clear hHeld hq
    obtain ⟨⟨z0, z1⟩, y0, y1⟩ := F1.1.c2
    have hlf := F1.1.lt
    have nv := F1.2.1.off F1.1 (by decide)
    have nr := R1.off F1.1 (by decide)
    have OF := F1.2.1.set_off nv 1 (.int .i64 n)
    have OR := R1.set_off nr 1 (.int .i64 n)
    have BF := F1.1.set_ 1 (.int .i64 n)
    have K1 : Kept (fun i => i ≠ gf ∧ (Value.slice p n c).ownBlock ≠ some i) w (w1.setCell ⟨gf, 1, none⟩ (.int .i64 n)) :=
      (show Kept _ w w.drew from ⟨rfl, rfl, rfl, Nat.le_refl _, fun _ _ _ => rfl⟩).trans ((Kept.of_below hb).trans (Kept.of_only (only_setCell (only_refl _ (some gf)) (.inl rfl) _) (fun i hi e => hi.1 (by injection e))))
    have hsz : (w1.setCell ⟨gf, 1, none⟩ (.int .i64 n)).heap.size = w1.heap.size := by simp [World.setCell]
    have hws : w.heap.size ≤ w1.heap.size := hb.size
    have HSZ := Lib.hid hsz
    clear hb hsz
    obtain ⟨i0, hi, hz0, hz1, hz2⟩ := info_parts rectInfo
    have hcase : (rp = none ∧ m = 0 ∧ rc = 0) ∨ ∃ g2, rp = some ⟨g2, 0, none⟩ := by
      rcases OR.2 with ⟨hv, hm0⟩ | ⟨g2, cap, cur, hv, _⟩
      · simp only [Value.slice.injEq] at hv; exact .inl hv
      · simp only [Value.slice.injEq] at hv; exact .inr ⟨g2, hv.1⟩
    rcases hcase with ⟨rfl, rfl, rfl⟩ | ⟨g2, rfl⟩
    · go_wp2_with (at_builtin; refine wpList_append_own_none rfl (.tmp 55) (.tmp 56) 22 rfl base 40 i0 4 Try.underlying22 hi _ _ _ rfl OF rfl ?_)
      go_end0
      have e0 : runs = [] := List.eq_nil_of_length_eq_zero HLM.out.symm
      have e1 : layR rs last runs = rs := by unfold layR; rw [HB.out, e0]; simp
      have e2 : layL rs last runs = n := by unfold layL; rw [HB.out, HLN.out]; rfl
      rw [e1, e2]
      exact ⟨rfl, .slice p n c, ⟨BF.set_ 0 (.slice p n c), OF.set_off nv 0 _, by have := HLN.out; omega⟩, K1.trans (Kept.of_only (only_setCell (only_refl _ (some gf)) (.inl rfl) _) (fun i hi e => hi.1 (by injection e))), .inl rfl⟩
    · go_wp2_with (at_builtin; refine wpList_append_own_at _ rfl (.tmp 55) (.tmp 56) 22 rfl base 40 i0 (.agg #[.int .i64 0, .int .i64 0, .int .i64 0, .int .i64 0]) 4 32 Try.underlying22 hi hz0 hz1 hz2 rfl (by decide) _ _ _ rfl OF ⟨_, 0, none⟩ _ _ (runs.flatMap encR) rfl (by rw [HLM.out]; exact OR.1) (World.ownsRow.cells OR rfl) (by intro u hu; obtain ⟨r, _, hr⟩ := List.mem_flatMap.1 hu; exact oneCell_encR r u hr) (by rw [← HLN.out]; unfold maxLen; omega) (by rw [← HLN.out]; omega) (by rw [HSZ.out]; omega) ?_; intro v' w3 hown hg _ hat; obtain ⟨p', c', rfl⟩ := own_slice hown; have BF3 := BF.grown hg (fun e => nv e.symm); clear z0 z1 y0 y1; obtain ⟨⟨z0, z1⟩, y0, y1⟩ := BF3.c2; have hlf3 := BF3.lt)
      go_end0
      have nv3 : (Value.slice p' (rs.length + m) c').ownBlock ≠ some gf := by
        rcases hat with e | e
        · rw [e]; exact nv
        · rw [e, HSZ.out]; intro e; injection e with e; omega
      have OF3 : OwK encR 40 4 w3 base (.slice p' (rs.length + m) c') (rs ++ runs) := by
        unfold OwK
        rw [List.length_append, List.flatMap_append, ← HLM.out]
        exact hown
      have e1 : layR rs last runs = rs ++ runs := by unfold layR; rw [HB.out]; rfl
      have e2 : layL rs last runs = n := by unfold layL; rw [HB.out, HLN.out]; rfl
      rw [e1, e2]
      refine ⟨rfl, .slice p' (rs.length + m) c', ⟨BF3.set_ 0 (.slice p' (rs.length + m) c'), OF3.set_off nv3 0 _, by rw [List.length_append]; have := HLN.out; omega⟩, ?_, ?_⟩
      · exact (K1.trans (Kept.of_only hg (fun i hi e => hi.2 e.symm))).trans (Kept.of_only (only_setCell (only_refl _ (some gf)) (.inl rfl) _) (fun i hi e => hi.1 (by injection e)))
      · exact hat.imp id fun h => ⟨_, h, by rw [HSZ.out]; exact hws⟩
  · rw [hb] at hE
    have hlen := eqR_len hb
    rw [List.length_drop, ← HLN.out, ← HLM.out] at hlen
    have HLEN := Lib.hid hlen
    have HE := Lib.hid hE
    have e1 : layR rs last runs = hUp rs last runs runs.length := by unfold layR; rw [if_pos hb]
    have e2 : layL rs last runs = last := by unfold layL; rw [if_pos hb]
    rw [e1, e2]
    clear hE hb e1 e2 hlen
    go_enter Try.func41, Try.ntmps41
    go_wp2_with fail
    refine wp_region_noPanic ?_
    refine wp_region_held_drew (S := fun wx => wx.cell? ⟨gf, 0, none⟩ = some (.slice p n c) ∧ wx.cell? ⟨gf, 1, none⟩ = some (.int .i64 last)) (by kernel_rfl) (by exact ⟨hF.drew.1.c2.1.1, hF.drew.1.c2.1.2⟩) (fun hHeld => ?_)
    refine wpAnyH_take (i := 0) (v := ?vb0) rfl (by kernel_rfl) (by kernel_rfl) (by kernel_rfl) (fun _ _ _ h => h) (Or.inl ⟨by kernel_rfl, ?yb0⟩) (by assumption) ?rb0
    case yb0 => (intro wq hSw; (try dsimp only at hSw); go_simp; (try with_reducible rfl))
    (try simp only [Act.put, List.getElem_toArray, List.getElem_cons_zero, List.setIfInBounds_toArray, List.set_cons_zero, List.set_cons_succ])
    refine wpAnyH_take (i := 1) (v := ?vb1) rfl (by kernel_rfl) (by kernel_rfl) (by kernel_rfl) (fun _ _ _ h => h) (Or.inl ⟨by kernel_rfl, ?yb1⟩) (by assumption) ?rb1
    case yb1 => (intro wq hSw; (try dsimp only at hSw); go_simp; (try with_reducible rfl))
    (try simp only [Act.put, List.getElem_toArray, List.getElem_cons_succ, List.getElem_cons_zero, List.setIfInBounds_toArray, List.set_cons_zero, List.set_cons_succ])
    refine wpAnyH_take (i := 2) (v := ?vb2) rfl (by kernel_rfl) (by kernel_rfl) (by kernel_rfl) (fun _ _ _ h => h) (Or.inl ⟨by kernel_rfl, ?yb2⟩) (by assumption) ?rb2
    case yb2 => (intro wq hSw; (try dsimp only at hSw); go_simp; (try with_reducible rfl))
    (try simp only [Act.put, List.getElem_toArray, List.getElem_cons_succ, List.getElem_cons_zero, List.setIfInBounds_toArray, List.set_cons_zero, List.set_cons_succ])
    refine wpAnyH_take (i := 3) (v := ?vb3) rfl (by kernel_rfl) (by kernel_rfl) (by kernel_rfl) (fun _ _ _ h => h) (Or.inl ⟨by kernel_rfl, ?yb3⟩) (by assumption) ?rb3
    case yb3 => (intro wq hSw; (try dsimp only at hSw); go_simp; (try with_reducible rfl))
    (try simp only [Act.put, List.getElem_toArray, List.getElem_cons_succ, List.getElem_cons_zero, List.setIfInBounds_toArray, List.set_cons_zero, List.set_cons_succ])
    refine wpAnyH_take (i := 4) (v := ?vb4) rfl (by kernel_rfl) (by kernel_rfl) (by kernel_rfl) (fun _ _ _ h => h) (Or.inl ⟨by kernel_rfl, ?yb4⟩) (by assumption) ?rb4
    case yb4 => (intro wq hSw; (try dsimp only at hSw); go_simp; (try with_reducible rfl))
    (try simp only [Act.put, List.getElem_toArray, List.getElem_cons_succ, List.getElem_cons_zero, List.setIfInBounds_toArray, List.set_cons_zero, List.set_cons_succ])
    refine wpAnyH_take (i := 5) (v := ?vb5) rfl (by kernel_rfl) (by kernel_rfl) (by kernel_rfl) (fun _ _ _ h => h) (Or.inl ⟨by kernel_rfl, ?yb5⟩) (by assumption) ?rb5
    case yb5 => (intro wq hSw; (try dsimp only at hSw); go_simp; (try with_reducible rfl))
    (try simp only [Act.put, List.getElem_toArray, List.getElem_cons_succ, List.getElem_cons_zero, List.setIfInBounds_toArray, List.set_cons_zero, List.set_cons_succ])
    refine wpAnyH_take (i := 6) (v := ?vb6) rfl (by kernel_rfl) (by kernel_rfl) (by kernel_rfl) (fun _ _ _ h => h) (Or.inl ⟨by kernel_rfl, ?yb6⟩) (by assumption) ?rb6
    case yb6 => (intro wq hSw; (try dsimp only at hSw); go_simp; (try with_reducible rfl))
    (try simp only [Act.put, List.getElem_toArray, List.getElem_cons_succ, List.getElem_cons_zero, List.setIfInBounds_toArray, List.set_cons_zero, List.set_cons_succ])
    refine wpAnyH_take (i := 7) (v := ?vb7) rfl (by kernel_rfl) (by kernel_rfl) (by kernel_rfl) (fun _ _ _ h => h) (Or.inl ⟨by kernel_rfl, ?yb7⟩) (by assumption) ?rb7
    case yb7 => (intro wq hSw; (try dsimp only at hSw); go_simp; (try with_reducible rfl))
    (try simp only [Act.put, List.getElem_toArray, List.getElem_cons_succ, List.getElem_cons_zero, List.setIfInBounds_toArray, List.set_cons_zero, List.set_cons_succ])
    refine wpAnyH_take (i := 8) (v := ?vb8) rfl (by kernel_rfl) (by kernel_rfl) (by kernel_rfl) (fun _ _ _ h => h) (Or.inl ⟨by kernel_rfl, ?yb8⟩) (by assumption) ?rb8
    case yb8 => (intro wq hSw; (try dsimp only at hSw); go_simp; (try with_reducible rfl))
    (try simp only [Act.put, List.getElem_toArray, List.getElem_cons_succ, List.getElem_cons_zero, List.setIfInBounds_toArray, List.set_cons_zero, List.set_cons_succ])
    refine wpAnyH_take (i := 9) (v := ?vb9) rfl (by kernel_rfl) (by kernel_rfl) (by kernel_rfl) (fun _ _ _ h => h) (Or.inl ⟨by kernel_rfl, ?yb9⟩) (by assumption) ?rb9
    case yb9 => (intro wq hSw; (try dsimp only at hSw); go_simp; (try with_reducible rfl))
    (try simp only [Act.put, List.getElem_toArray, List.getElem_cons_succ, List.getElem_cons_zero, List.setIfInBounds_toArray, List.set_cons_zero, List.set_cons_succ])
    refine wpAnyH_ready (rs := [10]) (by kernel_rfl) (by simp) ?_
    refine AllReadyH.cons rfl (fun K hK => ?_) AllReadyH.nil
    go_simp
    refine (HE.out).mono ?_
    rintro e1 w1 ⟨rfl, hb⟩; have F1 := hF.drew.next hb; have R1 := (show OwK encR 40 4 w.drew baser (.slice rp m rc) runs from hR).below hb
    (try dsimp only)
    refine hK.out _ _ (by exact ⟨F1.1.c2.1.1, F1.1.c2.1.2⟩) (fun hHeld => ?_)
    clear hK K
    (try simp only [Act.put, List.getElem_toArray, List.getElem_cons_succ, List.getElem_cons_zero, List.setIfInBounds_toArray, List.set_cons_zero, List.set_cons_succ])
    refine wpAnyH_done (by kernel_rfl) ?_ _
    refine NoPanic.normal ?_
    clear hHeld hq
    have K1 : Kept (fun i => i ≠ gf ∧ (Value.slice p n c).ownBlock ≠ some i) w w1 := (show Kept _ w w.drew from ⟨rfl, rfl, rfl, Nat.le_refl _, fun _ _ _ => rfl⟩).trans (Kept.of_below hb)
    clear hb hF hR
    go_wp2_with fail
    go_loopw [18] (fun z wr => ∃ k : Nat, k ≤ m ∧ z = .int .i64 k ∧ Fm wr gf base (.slice p n c) (hUp rs last runs k) last ∧ OwK encR 40 4 wr baser (.slice rp m rc) runs ∧ Kept (fun i => i ≠ gf ∧ (Value.slice p n c).ownBlock ≠ some i) w wr) (fun z _ => m - (intOf z).toNat)
    case atStart => exact ⟨0, Nat.zero_le _, rfl, F1, R1, K1⟩
    case round =>
      obtain ⟨k, hk, rfl, F2, R2, K2⟩ := hrel
      clear F1 R1 K1
      by_cases hlt : k < m
      · obtain ⟨a, ha⟩ : ∃ a, rs[last + k]? = some a := ⟨_, List.getElem?_eq_getElem (by have h1 := HLN.out; have h2 := HLEN.out; omega)⟩
        obtain ⟨b, hb⟩ : ∃ b, runs[k]? = some b := ⟨_, List.getElem?_eq_getElem (by rw [← HLM.out]; exact hlt)⟩
        have HX := Lib.hid (hUp_next (last := last) ha hb)
        have ha2 : (hUp rs last runs k)[last + k]? = some a := (hUp_get k k (Nat.le_refl _)).trans ha
        obtain ⟨ah1, ah2⟩ := HH.out a (List.mem_of_getElem? ha)
        obtain ⟨bh1, bh2⟩ := HH2.out b (List.mem_of_getElem? hb)
        have hUL := hUp_len rs last runs k
        generalize hUp rs last runs k = us at F2 HX ha2 hUL
        have hu0 : us ≠ [] := fun e => by rw [e] at ha2; simp at ha2
        have hr0 : runs ≠ [] := fun e => by rw [e] at hb; simp at hb
        obtain ⟨g, cap, hv, _, hlg, hc, hfz⟩ := F2.2.1.form encR_len hu0
        simp only [Value.slice.injEq] at hv
        obtain ⟨rfl, -, rfl⟩ := hv
        obtain ⟨g2, cap2, hv2, _, hlg2, hc2, _⟩ := R2.form encR_len hr0
        simp only [Value.slice.injEq] at hv2
        obtain ⟨rfl, -, rfl⟩ := hv2
        obtain ⟨u0, u1, u2, u3⟩ := RdK.own_rect (w := wr) (g := g) (j := last + k) (r := a) (fun i u hu => hc (last + k) a i u ha2 hu)
        obtain ⟨v0, v1, v2, v3⟩ := RdK.own_rect (w := wr) (g := g2) (j := k) (r := b) (fun i u hu => hc2 k b i u hb hu)
        have fz := hfz ((last + k) * 4 + 3)
        obtain ⟨⟨z0, z1⟩, _⟩ := F2.1.c2
        have hgg : g ≠ gf := fun e => F2.2.1.off F2.1 (by decide) (by rw [e]; rfl)
        have hg2 : g2 ≠ g := fun e => HNE.out g rfl (by rw [e]; rfl)
        have HUL := Lib.hid hUL
        have F22 : OwK encR 40 4 wr base (.slice (some ⟨g, 0, none⟩) us.length c) us := by rw [HUL.out, ← HLN.out]; exact F2.2.1
        have ST := World.ownsRow.stored F22 ((last + k) * 4 + 3) (.int .i64 (a.h + b.h))
        have e3 := flat_set3 us (last + k) a b.h ha2
        rw [e3] at ST
        have hw : wr.heap.size ≤ (wr.setCell ⟨g, (last + k) * 4 + 3, none⟩ (.int .i64 (a.h + b.h))).heap.size := by simp [World.setCell]
        have F5 : Fm (wr.setCell ⟨g, (last + k) * 4 + 3, none⟩ (.int .i64 (a.h + b.h))) gf base (.slice (some ⟨g, 0, none⟩) n c) (hUp rs last runs (k + 1)) last :=
          ⟨F2.1.far (Ne.symm hgg) _, by
            rw [HX.out]; unfold OwK; rw [List.length_set, HUL.out, ← HLN.out]
            have h := ST.1; rw [HUL.out, ← HLN.out] at h; exact h, by rw [hUp_len, ← HLN.out]; exact hl⟩
        have R5 := R2.set_off (show (Value.slice (some ⟨g2, 0, none⟩) m rc).ownBlock ≠ some g from fun e => hg2 (by injection e)) ((last + k) * 4 + 3) (.int .i64 (a.h + b.h))
        have K5 : Kept (fun i => i ≠ gf ∧ (Value.slice (some ⟨g, 0, none⟩) n c).ownBlock ≠ some i) w (wr.setCell ⟨g, (last + k) * 4 + 3, none⟩ (.int .i64 (a.h + b.h))) :=
          K2.trans (Kept.of_only ST.2 (fun i hi e => hi.2 e.symm))
        have S5 := Lib.hid (And.intro F5.1.c2.1.1 (And.intro F5.1.c2.1.2 (show (wr.setCell ⟨g, (last + k) * 4 + 3, none⟩ (.int .i64 (a.h + b.h))).cell? ⟨g2, k * 4 + 3, none⟩ = some (.int .i64 b.h) from by
          obtain ⟨g3, cap3, hv3, _, _, hc3, _⟩ := R5.form encR_len hr0
          simp only [Value.slice.injEq, Option.some.injEq, Addr.mk.injEq] at hv3
          obtain ⟨⟨rfl, _⟩, _, _⟩ := hv3
          exact (RdK.own_rect (fun i u hu => hc3 k b i u hb hu)).2.2.2)))
        clear ST e3 hw F22 R2 K2 HX ha2 ha hb hc hc2 hu0 hr0 hfz hgg hg2 u0 u1 u2 v0 v1 v2
        have W1 : IntKind.i64.wrap ((last : Int) + (k : Int)) = (last : Int) + (k : Int) := IntWalk.i64_in _ (by omega)
        have W2 : IntKind.i64.wrap (a.h + b.h) = a.h + b.h := IntWalk.i64_in _ (by omega)
        have W3 : ((last : Int) + (k : Int)).toNat = last + k := by omega
        have hlast : last + k < n := by have h2 := HLEN.out; omega
        have i1 : (0 : Int) ≤ (last : Int) + (k : Int) := by omega
        have i2 : (last : Int) + (k : Int) < (n : Int) := by omega
        have i3 : (0 : Int) ≤ (k : Int) := by omega
        have i4 : (k : Int) < (m : Int) := by omega
        go_wp2_with fail
        refine wp_region_noPanic ?_
        refine wp_region_held_drew (S := fun wx => wx.cell? ⟨gf, 0, none⟩ = some (.slice (some ⟨g, 0, none⟩) n c) ∧ wx.cell? ⟨gf, 1, none⟩ = some (.int .i64 last) ∧ wx.cell? ⟨g2, k * 4 + 3, none⟩ = some (.int .i64 b.h)) (by kernel_rfl) (by exact ⟨z0, z1, v3⟩) (fun hHeld => ?_)
        refine wpAnyH_take (i := 0) (v := ?vc0) rfl (by kernel_rfl) (by kernel_rfl) (by kernel_rfl) (fun _ _ _ h => h) (Or.inl ⟨by kernel_rfl, ?yc0⟩) (by assumption) ?rc0
        case yc0 => (intro wq hSw; (try dsimp only at hSw); go_simp; (try with_reducible rfl))
        (try simp only [Act.put, List.getElem_toArray, List.getElem_cons_zero, List.setIfInBounds_toArray, List.set_cons_zero, List.set_cons_succ])
        refine wpAnyH_take (i := 1) (v := ?vc1) rfl (by kernel_rfl) (by kernel_rfl) (by kernel_rfl) (fun _ _ _ h => h) (Or.inl ⟨by kernel_rfl, ?yc1⟩) (by assumption) ?rc1
        case yc1 => (intro wq hSw; (try dsimp only at hSw); go_simp; (try with_reducible rfl))
        (try simp only [Act.put, List.getElem_toArray, List.getElem_cons_succ, List.getElem_cons_zero, List.setIfInBounds_toArray, List.set_cons_zero, List.set_cons_succ])
        refine wpAnyH_take (i := 2) (v := ?vc2) rfl (by kernel_rfl) (by kernel_rfl) (by kernel_rfl) (fun _ _ _ h => h) (Or.inl ⟨by kernel_rfl, ?yc2⟩) (by assumption) ?rc2
        case yc2 => (intro wq hSw; (try dsimp only at hSw); go_simp; (try with_reducible rfl))
        (try simp only [Act.put, List.getElem_toArray, List.getElem_cons_succ, List.getElem_cons_zero, List.setIfInBounds_toArray, List.set_cons_zero, List.set_cons_succ])
        refine wpAnyH_take (i := 3) (v := ?vc3) rfl (by kernel_rfl) (by kernel_rfl) (by kernel_rfl) (fun _ _ _ h => h) (Or.inl ⟨by kernel_rfl, ?yc3⟩) (by assumption) ?rc3
        case yc3 => (intro wq hSw; (try dsimp only at hSw); go_simp; (try with_reducible rfl))
        (try simp only [Act.put, List.getElem_toArray, List.getElem_cons_succ, List.getElem_cons_zero, List.setIfInBounds_toArray, List.set_cons_zero, List.set_cons_succ])
        refine wpAnyH_take (i := 4) (v := ?vc4) rfl (by kernel_rfl) (by kernel_rfl) (by kernel_rfl) (fun _ _ _ h => h) (Or.inl ⟨by kernel_rfl, ?yc4⟩) (by assumption) ?rc4
        case yc4 => (intro wq hSw; (try dsimp only at hSw); go_simp; (try with_reducible rfl))
        (try simp only [Act.put, List.getElem_toArray, List.getElem_cons_succ, List.getElem_cons_zero, List.setIfInBounds_toArray, List.set_cons_zero, List.set_cons_succ])
        refine wpAnyH_take (i := 5) (v := ?vc5) rfl (by kernel_rfl) (by kernel_rfl) (by kernel_rfl) (fun _ _ _ h => h) (Or.inl ⟨by kernel_rfl, ?yc5⟩) (by assumption) ?rc5
        case yc5 => (intro wq hSw; (try dsimp only at hSw); go_simp; (try with_reducible rfl))
        (try simp only [Act.put, List.getElem_toArray, List.getElem_cons_succ, List.getElem_cons_zero, List.setIfInBounds_toArray, List.set_cons_zero, List.set_cons_succ])
        refine wpAnyH_take (i := 6) (v := ?vc6) rfl (by kernel_rfl) (by kernel_rfl) (by kernel_rfl) (fun _ _ _ h => h) (Or.inl ⟨by kernel_rfl, ?yc6⟩) (by assumption) ?rc6
        case yc6 => (intro wq hSw; (try dsimp only at hSw); go_simp; (try with_reducible rfl))
        (try simp only [Act.put, List.getElem_toArray, List.getElem_cons_succ, List.getElem_cons_zero, List.setIfInBounds_toArray, List.set_cons_zero, List.set_cons_succ])
        refine wpAnyH_take (i := 7) (v := ?vc7) rfl (by kernel_rfl) (by kernel_rfl) (by kernel_rfl) (fun _ _ _ h => h) (Or.inl ⟨by kernel_rfl, ?yc7⟩) (by assumption) ?rc7
        case yc7 => (intro wq hSw; (try dsimp only at hSw); go_simp; (try with_reducible rfl))
        (try simp only [Act.put, List.getElem_toArray, List.getElem_cons_succ, List.getElem_cons_zero, List.setIfInBounds_toArray, List.set_cons_zero, List.set_cons_succ])
        refine wpAnyH_take (i := 8) (v := ?vc8) rfl (by kernel_rfl) (by kernel_rfl) (by kernel_rfl) (fun _ _ _ h => h) (Or.inl ⟨by kernel_rfl, ?yc8⟩) (by assumption) ?rc8
        case yc8 => (intro wq hSw; (try dsimp only at hSw); go_simp; (try with_reducible rfl))
        (try simp only [Act.put, List.getElem_toArray, List.getElem_cons_succ, List.getElem_cons_zero, List.setIfInBounds_toArray, List.set_cons_zero, List.set_cons_succ])
        refine wpAnyH_take (i := 9) (v := ?vc9) rfl (by kernel_rfl) (by kernel_rfl) (by kernel_rfl) (fun _ _ _ h => h) (Or.inl ⟨by kernel_rfl, ?yc9⟩) (by assumption) ?rc9
        case yc9 => (intro wq hSw; (try dsimp only at hSw); go_simp; (try with_reducible rfl))
        (try simp only [Act.put, List.getElem_toArray, List.getElem_cons_succ, List.getElem_cons_zero, List.setIfInBounds_toArray, List.set_cons_zero, List.set_cons_succ])
        refine wpAnyH_take (i := 10) (v := ?vc10) rfl (by kernel_rfl) (by kernel_rfl) (by kernel_rfl) (fun _ _ _ h => h) (Or.inl ⟨by kernel_rfl, ?yc10⟩) (by assumption) ?rc10
        case yc10 => (intro wq hSw; (try dsimp only at hSw); go_simp; (try with_reducible rfl))
        (try simp only [Act.put, List.getElem_toArray, List.getElem_cons_succ, List.getElem_cons_zero, List.setIfInBounds_toArray, List.set_cons_zero, List.set_cons_succ])
        refine wpAnyH_take (i := 11) (v := ?vc11) rfl (by kernel_rfl) (by kernel_rfl) (by kernel_rfl) (fun _ _ _ h => h) (Or.inl ⟨by kernel_rfl, ?yc11⟩) (by assumption) ?rc11
        case yc11 => (intro wq hSw; (try dsimp only at hSw); go_simp; (try with_reducible rfl))
        (try simp only [Act.put, List.getElem_toArray, List.getElem_cons_succ, List.getElem_cons_zero, List.setIfInBounds_toArray, List.set_cons_zero, List.set_cons_succ])
        refine wpAnyH_take (i := 13) (v := ?vc13) rfl (by kernel_rfl) (by kernel_rfl) (by kernel_rfl) (fun _ _ _ h => h) (Or.inl ⟨by kernel_rfl, ?yc13⟩) (by assumption) ?rc13
        case yc13 => (intro wq hSw; (try dsimp only at hSw); go_simp; (try with_reducible rfl))
        (try simp only [Act.put, List.getElem_toArray, List.getElem_cons_succ, List.getElem_cons_zero, List.setIfInBounds_toArray, List.set_cons_zero, List.set_cons_succ])
        refine wpAnyH_take (i := 14) (v := ?vc14) rfl (by kernel_rfl) (by kernel_rfl) (by kernel_rfl) (fun _ _ _ h => h) (Or.inl ⟨by kernel_rfl, ?yc14⟩) (by assumption) ?rc14
        case yc14 => (intro wq hSw; (try dsimp only at hSw); go_simp; (try with_reducible rfl))
        (try simp only [Act.put, List.getElem_toArray, List.getElem_cons_succ, List.getElem_cons_zero, List.setIfInBounds_toArray, List.set_cons_zero, List.set_cons_succ])
        refine wpAnyH_take (i := 15) (v := ?vc15) rfl (by kernel_rfl) (by kernel_rfl) (by kernel_rfl) (fun _ _ _ h => h) (Or.inl ⟨by kernel_rfl, ?yc15⟩) (by assumption) ?rc15
        case yc15 => (intro wq hSw; (try dsimp only at hSw); go_simp; (try with_reducible rfl))
        (try simp only [Act.put, List.getElem_toArray, List.getElem_cons_succ, List.getElem_cons_zero, List.setIfInBounds_toArray, List.set_cons_zero, List.set_cons_succ])
        refine wpAnyH_take (i := 16) (v := ?vc16) rfl (by kernel_rfl) (by kernel_rfl) (by kernel_rfl) (fun _ _ _ h => h) (Or.inl ⟨by kernel_rfl, ?yc16⟩) (by assumption) ?rc16
        case yc16 => (intro wq hSw; (try dsimp only at hSw); go_simp; (try with_reducible rfl))
        (try simp only [Act.put, List.getElem_toArray, List.getElem_cons_succ, List.getElem_cons_zero, List.setIfInBounds_toArray, List.set_cons_zero, List.set_cons_succ])
        refine wpAnyH_take (i := 17) (v := ?vc17) rfl (by kernel_rfl) (by kernel_rfl) (by kernel_rfl) (fun _ _ _ h => h) (Or.inl ⟨by kernel_rfl, ?yc17⟩) (by assumption) ?rc17
        case yc17 => (intro wq hSw; (try dsimp only at hSw); go_simp; (try with_reducible rfl))
        (try simp only [Act.put, List.getElem_toArray, List.getElem_cons_succ, List.getElem_cons_zero, List.setIfInBounds_toArray, List.set_cons_zero, List.set_cons_succ])
        refine wpAnyH_ready (rs := [12]) (by kernel_rfl) (by simp) ?_
        refine AllReadyH.cons rfl (fun K hK => ?_) AllReadyH.nil
        go_simp
        refine hK.out _ _ (by exact ⟨z0, z1, v3⟩) (fun hHeld => ?_)
        clear hK K
        (try simp only [Act.put, List.getElem_toArray, List.getElem_cons_succ, List.getElem_cons_zero, List.setIfInBounds_toArray, List.set_cons_zero, List.set_cons_succ])
        refine wpAnyH_take (i := 18) (v := ?vc18) rfl (by kernel_rfl) (by kernel_rfl) (by kernel_rfl) (fun _ _ _ h => h) (Or.inl ⟨by kernel_rfl, ?yc18⟩) (by assumption) ?rc18
        case yc18 => (intro wq hSw; (try dsimp only at hSw); go_simp; (try with_reducible rfl))
        (try simp only [Act.put, List.getElem_toArray, List.getElem_cons_succ, List.getElem_cons_zero, List.setIfInBounds_toArray, List.set_cons_zero, List.set_cons_succ])
        refine wpAnyH_take (i := 19) (v := ?vc19) rfl (by kernel_rfl) (by kernel_rfl) (by kernel_rfl) (fun _ _ _ h => h) (Or.inl ⟨by kernel_rfl, ?yc19⟩) (by assumption) ?rc19
        case yc19 => (intro wq hSw; (try dsimp only at hSw); go_simp; (try with_reducible rfl))
        (try simp only [Act.put, List.getElem_toArray, List.getElem_cons_succ, List.getElem_cons_zero, List.setIfInBounds_toArray, List.set_cons_zero, List.set_cons_succ])
        refine wpAnyH_take (i := 20) (v := ?vc20) rfl (by kernel_rfl) (by kernel_rfl) (by kernel_rfl) (fun _ _ _ h => h) (Or.inl ⟨by kernel_rfl, ?yc20⟩) (by assumption) ?rc20
        case yc20 => (intro wq hSw; (try dsimp only at hSw); go_simp; (try with_reducible rfl))
        (try simp only [Act.put, List.getElem_toArray, List.getElem_cons_succ, List.getElem_cons_zero, List.setIfInBounds_toArray, List.set_cons_zero, List.set_cons_succ])
        refine wpAnyH_ready (rs := [21]) (by kernel_rfl) (by simp) ?_
        refine AllReadyH.cons rfl (fun K hK => ?_) AllReadyH.nil
        go_simp
        refine hK.out _ _ (by exact S5.out) (fun hHeld => ?_)
        clear hK K
        (try simp only [Act.put, List.getElem_toArray, List.getElem_cons_succ, List.getElem_cons_zero, List.setIfInBounds_toArray, List.set_cons_zero, List.set_cons_succ])
        refine wpAnyH_done (by kernel_rfl) ?_ _
        refine NoPanic.normal ?_
        clear hHeld W1 W2 W3
        go_wp2_with fail
        go_roundw
        case rel => exact ⟨k + 1, by omega, by go_num, F5, R5, K5⟩
        case measure => simp [intOf]; omega
      · obtain rfl : k = m := by omega
        have HLK := HLM.out
        go_wp2_with fail
        refine bodyPost_ret (results_none rfl _ _ _) rfl ?_
        rw [← HLK]
        exact ⟨rfl, .slice p n c, F2, K2, .inl rfl⟩
end Go.Proofs.Ytfabknabkcfpjaa
