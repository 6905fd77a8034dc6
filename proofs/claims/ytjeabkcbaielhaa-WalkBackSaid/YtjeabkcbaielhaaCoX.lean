/- What closures change: a split's kind, when a client was seen. -/
import Derived.Test.YtjeabkcbaielhaaCoW
namespace Go.Proofs.Ytjeabkcbaielhaa.Co
open Go.RowKit Go.Shelf
theorem nodup_kid {a : AD} {ks : List ATr} {i : Nat} {x : ATr} (h : (blks (.mk a ks)).Nodup) (hx : ks[i]? = some x) : (blks x).Nodup ∧ a.g ∉ blks x := by
  rw [blks_kid hx] at h
  simp only [List.nodup_append, List.mem_append, List.mem_singleton] at h
  exact ⟨h.1.2.1, fun hm => h.1.2.2 a.g (.inl rfl) a.g hm rfl⟩
theorem loc_not : ∀ {u : List Nat} {b o : Nat} {t s : ATr}, (blks t).Nodup → get t u = some s → u ≠ [] → (loc b o t u).1 ∉ blks s := by
  intro u
  induction u with
  | nil => intro _ _ _ _ _ _ h; exact absurd rfl h
  | cons i r ih =>
    intro b o t s hn hs _
    obtain ⟨a, ks⟩ := t
    obtain ⟨x, hx, hr⟩ := get_cons hs
    rw [loc_cons hx]
    obtain ⟨h1, h2⟩ := nodup_kid hn hx
    cases r with
    | nil => simp only [get] at hr; have hr := Option.some.inj hr; subst hr; exact h2
    | cons j q => exact ih h1 hr (by simp)
section
variable {w : World} {N r : Nat} {t s s' : ATr} {u : List Nat}
theorem Root.loc_not (h : Root N w r t) (hs : get t u = some s) : (loc r 0 t u).1 ∉ blks s := by
  have := Co.loc_not (b := 0) (o := 0) h.nodup (get_top (r := r) hs) (by simp)
  rwa [loc_top] at this
theorem Root.loc_mem (_h : Root N w r t) (hs : get t u = some s) : (loc r 0 t u).1 ∈ blks (topT r t) := by
  have := Co.loc_mem (b := 0) (o := 0) (get_top (r := r) hs) (by simp)
  rwa [loc_top] at this
/-- One number of a container becomes another. -/
theorem Root.set {f : Nat} {v : Value} (h : Root N w r t) (hs : get t u = some s) (hf : f < 5) (he : encC s'.a.d (slA s') = (encC s.a.d (slA s)).set f v) (hb : blks s' = blks s) (hO : ∀ w', Own w' s → Own w' s') (hN : N ≤ w.heap.size) :
    Root N (w.setCell ⟨(loc r 0 t u).1, (loc r 0 t u).2 + f, none⟩ v) r (Co.put t u s') ∧ Turn (fun b => b ∈ blks (topT r t)) (fun _ => False) w (w.setCell ⟨(loc r 0 t u).1, (loc r 0 t u).2 + f, none⟩ v) := by
  obtain ⟨cur, h1, _, h3⟩ := h.block hs
  have hR := (Repl.refl h1 h3).set hf (enc_len _ _) v
  rw [← he] at hR
  have hfar : ∀ x, x ≠ (loc r 0 t u).1 → (w.setCell ⟨(loc r 0 t u).1, (loc r 0 t u).2 + f, none⟩ v).heap[x]? = w.heap[x]? := fun x hx => Below.heap_setCell w ⟨(loc r 0 t u).1, (loc r 0 t u).2 + f, none⟩ v x hx
  have hni := h.loc_not hs
  obtain ⟨l1, l2, e1, _⟩ := blks_put (get_top (r := r) hs)
  have hnd : (blks s).Nodup := by have := h.nodup; rw [e1] at this; simp only [List.nodup_append] at this; exact this.1.2.1
  refine ⟨h.put hs hR (fun x _ _ hx => hfar x hx) (hO _ ((h.held.get hs).own.same fun b hb' => hfar b fun e => hni (e ▸ hb'))) (by rw [hb]; exact hnd) (fun x hx => .inl (hb ▸ hx)) hN, ⟨rfl, rfl, rfl, by simp [World.setCell], fun i _ hi => hfar i fun e => hi (e ▸ h.loc_mem hs), fun _ h => h.elim⟩⟩
end
/-- The parent of the leaf at a way's end has another kind. -/
def turnF (kind : Int) (x : Con) (way : List Nat) : Con × Int :=
  match get x way.dropLast with
  | some p => (put x way.dropLast (.mk { p.a with k := kind } p.ks), 0)
  | none => (x, 0)
def touchF (seen : Int) (x : Con) (way : List Nat) : Con × Int :=
  match get x way with
  | some p => (put x way (.mk { p.a with s := seen } p.ks), 0)
  | none => (x, 0)
theorem enters_turn : ∀ args w, (callFunc 78 args).run Try.prog w = .ok (.enter 78 args) w := enters_of Try.func78 (by kernel_rfl) rfl
theorem enters_touch : ∀ args w, (callFunc 79 args).run Try.prog w = .ok (.enter 79 args) w := enters_of Try.func79 (by kernel_rfl) rfl
set_option maxHeartbeats 1000000 in
theorem how_turn (kb : Nat) (kind : Int) : HowC 78 #[.pointer (some ⟨kb, 0, none⟩)] (fun w => Blk w kb 3 #[.int .i64 kind]) (turnF kind) := by
  intro N w r t u j p y v hK hN hR hW hp hy hfi hlen
  have HC := Lib.hid (cut_c (fun _ => True) t p r 0 u j v w hR.held hW hp)
  have hF : turnF kind (era t) (u ++ [j]) = (era (put t u (.mk { p.a with d := { p.a.d with k := kind } } p.ks)), 0) := by
    unfold turnF
    rw [List.dropLast_concat, era_get, hp]
    simp only [Option.map_some]
    rw [era_put hp, era_mk, era_ks, era_a]
  obtain ⟨q, c, rfl⟩ := hW.slice
  have h0 := (hR.held.get hp).cells 0 _ rfl
  have hz := (hR.held.get hp).free (loc r 0 t u).2
  have hset := fun m => (hR.drewN m).set (f := 0) (s' := .mk { p.a with d := { p.a.d with k := kind } } p.ks) (v := .int .i64 kind) hp (by omega) rfl (by obtain ⟨a, ks⟩ := p; rfl) (fun w' ho => by obtain ⟨a, ks⟩ := p; exact ho) hN
  have hkc := hK.at_ (i := 0) rfl
  simp only [Nat.add_zero] at h0 hset
  obtain ⟨L, hL⟩ : ∃ L, L = loc r 0 t u := ⟨_, rfl⟩
  rw [← hL] at HC h0 hz hset
  obtain ⟨lb, lo⟩ := L
  have HS := Lib.hid hset
  have HFF := Lib.hid hF
  obtain ⟨nw, hnw⟩ : ∃ nw, nw = (u ++ [j]).length := ⟨_, rfl⟩
  rw [← hnw] at HC ⊢
  obtain ⟨R, hRR⟩ : ∃ R, R = fun (e : Ending) (w' : World) => e = .returned (.int .i64 (turnF kind (era t) (u ++ [j])).2) ∧ Turn (fun b => b ∈ blks (topT r t)) (fun _ => False) w w' ∧ ((turnF kind (era t) (u ++ [j])).2 = 0 → ∃ t', Root N w' r t' ∧ era t' = (turnF kind (era t) (u ++ [j])).1) := ⟨_, rfl⟩
  rw [← hRR]
  have HRR := Lib.hid hRR
  clear hF hset hR hW hp hy hfi hlen hnw hK hL hRR
  show Calls Try.prog 78 #[.pointer (some ⟨r, 0, none⟩), .slice q nw c, .pointer (some ⟨kb, 0, none⟩)] w R
  go_enter Try.func78, Try.ntmps78
  go_wp2_with fail
  refine HC.out.mono ?_
  rintro e w1 ⟨rfl, m, rfl⟩
  go_wp2_with fail
  show R (.returned (.int .i64 0)) _
  rw [HRR.out]
  obtain ⟨h1, h2⟩ := HS.out m
  exact ⟨by rw [HFF.out], (Turn.of_below (below_drewN (Below.refl _ _) m)).trans h2, fun _ => ⟨_, h1, by rw [HFF.out]⟩⟩
set_option maxHeartbeats 1000000 in
theorem how_touch (kb : Nat) (seen : Int) : HowC 79 #[.pointer (some ⟨kb, 0, none⟩)] (fun w => Blk w kb 3 #[.int .i64 seen]) (touchF seen) := by
  intro N w r t u j p y v hK hN hR hW hp hy hfi hlen
  have hgy : get t (u ++ [j]) = some y := by rw [get_append _ hp]; obtain ⟨a, ks⟩ := p; simp only [get]; rw [show ks[j]? = some y from hy]
  have HC := Lib.hid (at_c (fun _ => True) t y r 0 (u ++ [j]) v w.drew (hR.drew).held (hW.next (below_drewN (Below.refl _ _) 1)) hgy)
  have hF : touchF seen (era t) (u ++ [j]) = (era (put t (u ++ [j]) (.mk { y.a with d := { y.a.d with s := seen } } y.ks)), 0) := by
    unfold touchF
    rw [era_get, hgy]
    simp only [Option.map_some]
    rw [era_put hgy, era_mk, era_ks, era_a]
  obtain ⟨q, c, rfl⟩ := hW.slice
  have h0 := (hR.held.get hgy).cells 3 _ rfl
  have hz := (hR.held.get hgy).free ((loc r 0 t (u ++ [j])).2 + 3)
  have hset := (hR.drew).set (f := 3) (s' := .mk { y.a with d := { y.a.d with s := seen } } y.ks) (v := .int .i64 seen) hgy (by omega) rfl (by obtain ⟨a, ks⟩ := y; rfl) (fun w' ho => by obtain ⟨a, ks⟩ := y; exact ho) hN
  obtain ⟨cur, hcur, -⟩ := hR.block hgy
  have hkc := hK.at_ (i := 0) rfl
  obtain ⟨L, hL⟩ : ∃ L, L = loc r 0 t (u ++ [j]) := ⟨_, rfl⟩
  rw [← hL] at HC h0 hz hset hcur
  obtain ⟨lb, lo⟩ := L
  have hne : kb ≠ lb := hK.ne_ (show Blk w lb 24 cur from hcur) (by decide)
  have HS := Lib.hid hset
  have HFF := Lib.hid hF
  have hkc2 : (w.drew.setCell ⟨lb, lo + 3, none⟩ (.int .i64 seen)).cell? ⟨kb, 0, none⟩ = some (.int .i64 seen) := (cell_same (Below.heap_setCell w.drew ⟨lb, lo + 3, none⟩ _ kb hne) 0).trans hkc
  obtain ⟨nw, hnw⟩ : ∃ nw, nw = (u ++ [j]).length := ⟨_, rfl⟩
  rw [← hnw] at HC ⊢
  obtain ⟨R, hRR⟩ : ∃ R, R = fun (e : Ending) (w' : World) => e = .returned (.int .i64 (touchF seen (era t) (u ++ [j])).2) ∧ Turn (fun b => b ∈ blks (topT r t)) (fun _ => False) w w' ∧ ((touchF seen (era t) (u ++ [j])).2 = 0 → ∃ t', Root N w' r t' ∧ era t' = (touchF seen (era t) (u ++ [j])).1) := ⟨_, rfl⟩
  rw [← hRR]
  have HRR := Lib.hid hRR
  clear hF hset hR hW hp hy hfi hlen hnw hK hL hRR hcur hgy
  show Calls Try.prog 79 #[.pointer (some ⟨r, 0, none⟩), .slice q nw c, .pointer (some ⟨kb, 0, none⟩)] w R
  go_enter Try.func79, Try.ntmps79
  go_wp2_with fail
  refine wp_region_noPanic ?_
  refine wp_region_held_drew (S := fun wx => wx.cell? ⟨kb, 0, none⟩ = some (.int .i64 seen)) (by kernel_rfl) (by exact hkc) (fun hHeld => ?_)
  refine wpAnyH_take (i := 0) (v := ?v0) rfl (by kernel_rfl) (by kernel_rfl) (by kernel_rfl) (fun _ _ _ h => h) (Or.inl ⟨by kernel_rfl, ?y0⟩) (by assumption) ?r0
  case y0 => (intro wq hSw; (try dsimp only at hSw); go_simp; (try with_reducible rfl))
  (try simp only [Act.put, List.getElem_toArray, List.getElem_cons_zero, List.setIfInBounds_toArray, List.set_cons_zero, List.set_cons_succ])
  refine wpAnyH_take (i := 1) (v := ?v1) rfl (by kernel_rfl) (by kernel_rfl) (by kernel_rfl) (fun _ _ _ h => h) (Or.inl ⟨by kernel_rfl, ?y1⟩) (by assumption) ?r1
  case y1 => (intro wq hSw; (try dsimp only at hSw); go_simp; (try with_reducible rfl))
  (try simp only [Act.put, List.getElem_toArray, List.getElem_cons_succ, List.getElem_cons_zero, List.setIfInBounds_toArray, List.set_cons_zero, List.set_cons_succ])
  refine wpAnyH_take (i := 3) (v := ?v3) rfl (by kernel_rfl) (by kernel_rfl) (by kernel_rfl) (fun _ _ _ h => h) (Or.inl ⟨by kernel_rfl, ?y3⟩) (by assumption) ?r3
  case y3 => (intro wq hSw; (try dsimp only at hSw); go_simp; (try with_reducible rfl))
  (try simp only [Act.put, List.getElem_toArray, List.getElem_cons_succ, List.getElem_cons_zero, List.setIfInBounds_toArray, List.set_cons_zero, List.set_cons_succ])
  refine wpAnyH_ready (rs := [2]) (by kernel_rfl) (by simp) ?_
  refine AllReadyH.cons rfl (fun K hK => ?_) AllReadyH.nil
  go_simp
  refine (HC.out).mono ?_
  rintro ex w4 ⟨rfl, rfl⟩
  (try dsimp only)
  refine hK.out _ _ (by exact hkc) (fun hHeld => ?_)
  clear hK K
  (try simp only [Act.put, List.getElem_toArray, List.getElem_cons_succ, List.getElem_cons_zero, List.setIfInBounds_toArray, List.set_cons_zero, List.set_cons_succ])
  refine wpAnyH_take (i := 4) (v := ?v4) rfl (by kernel_rfl) (by kernel_rfl) (by kernel_rfl) (fun _ _ _ h => h) (Or.inl ⟨by kernel_rfl, ?y4⟩) (by assumption) ?r4
  case y4 => (intro wq hSw; (try dsimp only at hSw); go_simp; (try with_reducible rfl))
  (try simp only [Act.put, List.getElem_toArray, List.getElem_cons_succ, List.getElem_cons_zero, List.setIfInBounds_toArray, List.set_cons_zero, List.set_cons_succ])
  refine wpAnyH_take (i := 5) (v := ?v5) rfl (by kernel_rfl) (by kernel_rfl) (by kernel_rfl) (fun _ _ _ h => h) (Or.inl ⟨by kernel_rfl, ?y5⟩) (by assumption) ?r5
  case y5 => (intro wq hSw; (try dsimp only at hSw); go_simp; (try with_reducible rfl))
  (try simp only [Act.put, List.getElem_toArray, List.getElem_cons_succ, List.getElem_cons_zero, List.setIfInBounds_toArray, List.set_cons_zero, List.set_cons_succ])
  refine wpAnyH_ready (rs := [6]) (by kernel_rfl) (by simp) ?_
  refine AllReadyH.cons rfl (fun K hK => ?_) AllReadyH.nil
  go_simp
  refine hK.out _ _ (by exact hkc2) (fun hHeld => ?_)
  clear hK K
  (try simp only [Act.put, List.getElem_toArray, List.getElem_cons_succ, List.getElem_cons_zero, List.setIfInBounds_toArray, List.set_cons_zero, List.set_cons_succ])
  refine wpAnyH_done (by kernel_rfl) ?_ _
  refine NoPanic.normal ?_
  go_wp2_with fail
  show R (.returned (.int .i64 0)) _
  rw [HRR.out]
  obtain ⟨h1, h2⟩ := HS.out
  exact ⟨by rw [HFF.out], (Turn.of_below (below_drewN (Below.refl _ _) 1)).trans h2, fun _ => ⟨_, h1, by rw [HFF.out]⟩⟩
end Go.Proofs.Ytjeabkcbaielhaa.Co
