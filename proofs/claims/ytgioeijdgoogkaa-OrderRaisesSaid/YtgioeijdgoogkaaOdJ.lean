/- slices.SortFunc of things' places; order.sorted. -/
import Derived.Test.YtgioeijdgoogkaaOdI
import Derived.Test.YtgioeijdgoogkaaOdS
import Derived.Sort.OwnSortedInts
namespace Go.Proofs.Ytgioeijdgoogkaa.Od
open Go.RowKit Go.Maps Go.Shelf
set_option linter.unusedSimpArgs false
theorem ins_none (p : Option Addr) (c : Nat) (fv : Value) (w : World) : Calls Try.prog 45 #[.slice p 0 c, .int .i64 0, .int .i64 0, fv] w fun e w' => e = .returned (.tuple #[]) ∧ w' = w := by
  go_enter Try.func45, Try.ntmps45
  go_wp2_with fail
  go_loopw [8] (fun z wr => z = .int .i64 1 ∧ wr = w) (fun _ _ => 0)
  case atStart => exact ⟨rfl, rfl⟩
  case round =>
    obtain ⟨rfl, rfl⟩ := hrel
    go_wp2_with fail
    go_end0
    exact ⟨rfl, rfl⟩
theorem len_zero (w : World) : Calls Try.prog 43 #[.int .u64 0] w fun e w' => e = .returned (.int .i64 0) ∧ w' = w := by
  have h64 : ∀ W : World, Calls Try.prog 54 #[.int .u64 0] W fun e w' => e = .returned (.int .i64 0) ∧ w' = W := by
    intro W
    go_enter Try.func54, Try.ntmps54
    go_wp2_with fail
    go_ret
    exact ⟨by kernel_rfl, rfl⟩
  go_enter Try.func43, Try.ntmps43
  go_wp2_with (go_at_call 54; refine (h64 _).mono ?_; rintro e w' ⟨rfl, rfl⟩)
  go_ret
  exact ⟨rfl, rfl⟩
theorem pdq_none (p : Option Addr) (c : Nat) (fv : Value) (w : World) : Calls Try.prog 42 #[.slice p 0 c, .int .i64 0, .int .i64 0, .int .i64 0, fv] w fun e w' => e = .returned (.tuple #[]) ∧ w' = w := by
  have HI := Lib.hid (fun W => ins_none p c fv W)
  go_enter Try.func42, Try.ntmps42
  go_wp2_with fail
  go_loopw [1, 2] (fun y z wr => y = .int .i64 0 ∧ z = .int .i64 0 ∧ wr = w) (fun _ _ _ => 0)
  case atStart => exact ⟨rfl, rfl, rfl⟩
  case round =>
    obtain ⟨rfl, rfl, rfl⟩ := hrel
    go_wp2_with fail
    refine (HI.out _).mono ?_
    rintro e w1 ⟨rfl, rfl⟩
    go_wp2_with fail
    refine bodyPost_ret (results_none rfl _ _ _) rfl ?_
    exact ⟨rfl, rfl⟩
theorem sort_none (p : Option Addr) (c : Nat) (fv : Value) (w : World) : Calls Try.prog 36 #[.slice p 0 c, fv] w fun e w' => e = .returned (.tuple #[]) ∧ w' = w := by
  have HI := Lib.hid (fun W => pdq_none p c fv W)
  have HL := Lib.hid (fun W => len_zero W)
  go_enter Try.func36, Try.ntmps36
  go_wp2_with (first | (go_at_call 43; refine (HL.out _).mono ?_; rintro e w' ⟨rfl, rfl⟩) | (go_at_call 42; refine (HI.out _).mono ?_; rintro e w' ⟨rfl, rfl⟩))
  go_end0
  exact ⟨rfl, rfl⟩
/-- The clients in the order that they would have. -/
def Srt (l : List It) (S : List Int) : Prop := S.Nodup ∧ (∀ c, c ∈ S ↔ c ∈ cl l) ∧ S.Pairwise (LT l)
def pl (l : List It) (c : Int) : Int := ((cl l).idxOf c : Nat)
def cAt (l : List It) (i : Nat) : Int := ((l[i]?).map (·.c)).getD 0
theorem cAt_at {l : List It} {i : Nat} {x : It} (h : l[i]? = some x) : cAt l i = x.c := by unfold cAt; rw [h]; rfl
theorem cf_swo (l : List It) (n : Nat) : Go.Sort.SWO (ltOf fun i j : Fin n => cfc l (cAt l i) (cAt l j)) := by
  have e : ∀ i j : Fin n, ltOf (fun i j : Fin n => cfc l (cAt l i) (cAt l j)) i j = true ↔ LT l (cAt l i) (cAt l j) := fun i j => by
    unfold ltOf; rw [decide_eq_true_iff]; exact cfc_neg _ _ _
  have e2 : ∀ i j : Fin n, ltOf (fun i j : Fin n => cfc l (cAt l i) (cAt l j)) i j = false ↔ ¬ LT l (cAt l i) (cAt l j) := fun i j => by rw [← e, Bool.not_eq_true]
  refine ⟨fun x => (e2 x x).2 fun h => h.not h, fun x y z h1 h2 => ?_, fun x y z h1 h2 => ?_⟩
  · rw [e, lt_iff] at *; omega
  · rw [e2, lt_iff] at *; omega
theorem grownBy_sort {α : Type} [Inhabited α] {enc : α → Value} {w : World} {g n : Nat} {os : Array Obj} (d : Array α) : w.grownBy (Sort.grow (Sort.putRow enc (Sort.ahead w n) g 0 d) os) (some g) := by
  refine ⟨rfl, rfl, rfl, by simp [Sort.grow, Sort.putRow, Sort.mapBlock, Sort.ahead], fun k hk hne => ?_⟩
  have hh : g ≠ k := fun e => hne (by rw [e])
  rw [Sort.heap_grow_old _ _ (by simpa [Sort.putRow, Sort.mapBlock, Sort.ahead] using hk)]
  simp [Sort.putRow, Sort.mapBlock, Sort.ahead, Array.getElem?_modify, hh]
theorem heap_sort {α : Type} [Inhabited α] {enc : α → Value} {w : World} {g n : Nat} {os : Array Obj} {cur : Array Value} {e : TypeId} (d : Array α) (hb : Blk w g e cur) : Blk (Sort.grow (Sort.putRow enc (Sort.ahead w n) g 0 d) os) g e (Sort.putCells enc 0 d cur) := by
  have hg : g < w.heap.size := hb.lt
  unfold Blk at *
  rw [Sort.heap_grow_old _ _ (by simpa [Sort.putRow, Sort.mapBlock, Sort.ahead] using hg)]
  simp [Sort.putRow, Sort.mapBlock, Sort.ahead, Array.getElem?_modify, hb, Sort.onCells]
/-- 0, 1, 2 .. -/
def upto (n : Nat) : List Int := (List.range n).map fun i : Nat => (i : Int)
theorem upto_at {n j : Nat} (h : j < n) : (upto n)[j]? = some (j : Int) := by unfold upto; simp [h]
theorem upto_len (n : Nat) : (upto n).length = n := by unfold upto; simp
set_option maxRecDepth 100000 in
theorem sort9 (v0 : Value) (l : List It) (g gb gB gl c2 : Nat) (w0 w : World) (hd : Dis l) (hR : RdT w0 v0 l) (hB : Below w0.heap.size w0 w) (hg : w0.heap.size ≤ g) (hn : l.length ≤ 128)
    (hQ : Blk w gB 3 (arrI (l.map fun x => bd l x.c))) (h1 : Blk w gb 27 #[.slice (some ⟨gB, 0, none⟩) l.length c2]) (h2 : Blk w gl 22 #[v0]) (n1 : gB ≠ g) (n2 : gb ≠ g) (n3 : gl ≠ g) (hG : Blk w g 3 (arrI (upto l.length))) :
    Calls Try.prog 36 #[.slice (some ⟨g, 0, none⟩) l.length l.length, .func (.func 37) #[] #[.pointer (some ⟨gb, 0, none⟩), .pointer (some ⟨gl, 0, none⟩)]] w fun e w' => e = .returned (.tuple #[]) ∧ (∃ S, Srt l S ∧ Blk w' g 3 (arrI (S.map (pl l)))) ∧ w.grownBy w' (some g) := by
  cases hl : l.length with
  | zero =>
    have : l = [] := List.eq_nil_of_length_eq_zero hl
    subst this
    refine (sort_none _ _ _ w).mono ?_
    rintro e w' ⟨rfl, rfl⟩
    exact ⟨rfl, ⟨[], ⟨List.Pairwise.nil, fun c => Iff.rfl, List.Pairwise.nil⟩, hG⟩, only_refl _ _⟩
  | succ n =>
    obtain ⟨x0, hx0⟩ : ∃ x, l[0]? = some x := ⟨_, List.getElem?_eq_getElem (by omega)⟩
    obtain ⟨p, c, hv, hcell⟩ := id hR
    subst hv
    obtain ⟨b, o, rfl, hRB⟩ := hR.open hx0
    have hbg : b ≠ g := by have := hRB.1; omega
    have hW : ∀ (W : World), w.grownBy W (some g) → ∀ (i j : Nat), i < n + 1 → j < n + 1 → Calls Try.prog 37 #[.int .i64 i, .int .i64 j, .pointer (some ⟨gb, 0, none⟩), .pointer (some ⟨gl, 0, none⟩)] W fun e w' => e = .returned (.int .i64 (cfc l (cAt l i) (cAt l j))) ∧ Gr W w' := fun W hgr i j hi hj => by
      obtain ⟨x, hx⟩ : ∃ x, l[i]? = some x := ⟨_, List.getElem?_eq_getElem (by omega)⟩
      obtain ⟨y, hy⟩ : ∃ x, l[j]? = some x := ⟨_, List.getElem?_eq_getElem (by omega)⟩
      rw [cAt_at hx, cAt_at hy]
      have hRw : RdB w b o l := hRB.below hB
      have hRW : RdB W b o l := ⟨Nat.lt_of_lt_of_le hRw.1 hgr.size, fun j x hx i u hu => by
        have h := hRw.2 j x hx i u hu
        have hb := hgr.block b hRw.1 (fun e => hbg (Option.some.inj e))
        rw [← h]
        simp only [World.cell?, hb]⟩
      exact lower_c l b o l.length c gb gB gl c2 i j x y W hd rfl hRW (hQ.grown hgr (fun e => n1 (Option.some.inj e))) (h1.grown hgr (fun e => n2 (Option.some.inj e))) (h2.grown hgr (fun e => n3 (Option.some.inj e))) hx hy
    have hd0 : (Array.ofFn fun i : Fin (n + 1) => i).size = n + 1 := by simp
    have hH : Sort.Holds (fun i : Fin (n + 1) => Value.int .i64 (i.val : Int)) w g 0 (Array.ofFn fun i : Fin (n + 1) => i) := fun j hj => by
      rw [hd0] at hj
      refine ⟨?_, hG.frozen _⟩
      rw [Nat.zero_add, hG.at_ (arrI_at (by rw [hl]; exact upto_at hj))]
      simp [hj]
    have h := Any.slices_SortFunc sortInt (fun i : Fin (n + 1) => Value.int .i64 (i.val : Int)) (fun _ => rfl) (fun i j => cfc l (cAt l i) (cAt l j)) (cf_swo l (n + 1)) 37 #[.pointer (some ⟨gb, 0, none⟩), .pointer (some ⟨gl, 0, none⟩)] g 0 (n + 1) (Array.ofFn fun i : Fin (n + 1) => i) w (fun args w => by kernel_rfl) (fun m os dk hs x y => (hW _ (grownBy_sort dk) x.val y.val x.isLt y.isLt)) hH hG.lt (by rw [hd0]; omega)
    rw [hd0] at h
    refine Calls.mono h ?_
    rintro e w' ⟨he, d', k, os, hp, hs, hw⟩
    refine ⟨he, ?_, by rw [hw]; exact grownBy_sort d'⟩
    obtain ⟨hsz, -, hperm⟩ := hp
    rw [hd0] at hsz
    have hperm : d'.toList.Perm (Array.ofFn fun i : Fin (n + 1) => i).toList := by
      have a1 : d'.extract 0 d'.size = d' := Array.extract_size
      rw [hsz] at a1
      have a2 : (Array.ofFn fun i : Fin (n + 1) => i).extract 0 (Array.ofFn fun i : Fin (n + 1) => i).size = Array.ofFn fun i : Fin (n + 1) => i := Array.extract_size
      rw [hd0] at a2
      rw [a1, a2] at hperm
      exact hperm
    have hall : (Array.ofFn fun i : Fin (n + 1) => i).toList = List.finRange (n + 1) := by simp [List.finRange]
    rw [hall] at hperm
    have hget : ∀ (i : Nat) (h : i < d'.size), d'[i]! = d'[i] := fun i h => getElem!_pos d' i h
    have hinj : ∀ i j : Fin (n + 1), cAt l i.val = cAt l j.val → i = j := fun i j e => by
      obtain ⟨x, hx⟩ : ∃ x, l[i.val]? = some x := ⟨_, List.getElem?_eq_getElem (by have := i.isLt; omega)⟩
      obtain ⟨y, hy⟩ : ∃ x, l[j.val]? = some x := ⟨_, List.getElem?_eq_getElem (by have := j.isLt; omega)⟩
      rw [cAt_at hx, cAt_at hy] at e
      exact Fin.ext (hd.inj hx hy e)
    have hin : ∀ i : Fin (n + 1), cAt l i.val ∈ cl l := fun i => by
      obtain ⟨x, hx⟩ : ∃ x, l[i.val]? = some x := ⟨_, List.getElem?_eq_getElem (by have := i.isLt; omega)⟩
      rw [cAt_at hx]
      exact List.mem_map.2 ⟨x, List.mem_of_getElem? hx, rfl⟩
    have hnd : d'.toList.Nodup := hperm.nodup_iff.2 (List.nodup_finRange _)
    refine ⟨d'.toList.map fun i => cAt l i.val, ⟨?_, fun c => ?_, ?_⟩, ?_⟩
    · show List.Pairwise _ _
      rw [List.pairwise_map]
      exact List.Pairwise.imp (fun hne e => hne (hinj _ _ e)) hnd
    · constructor
      · intro hc
        obtain ⟨i, _, rfl⟩ := List.mem_map.1 hc
        exact hin i
      · intro hc
        obtain ⟨x, hx, rfl⟩ := List.mem_map.1 hc
        obtain ⟨j, hj⟩ := List.getElem?_of_mem hx
        have hjl := (List.getElem?_eq_some_iff.1 hj).1
        exact List.mem_map.2 ⟨⟨j, by omega⟩, hperm.mem_iff.2 (List.mem_finRange _), cAt_at hj⟩
    · rw [List.pairwise_iff_getElem]
      intro i j hi hj hij
      have hi' : i < d'.size := by simpa using hi
      have hj' : j < d'.size := by simpa using hj
      have h3 := hs i j (Nat.zero_le _) hij (by omega)
      rw [hget i hi', hget j hj'] at h3
      simp only [List.getElem_map, Array.getElem_toList]
      have hne : cAt l (d'[i]).val ≠ cAt l (d'[j]).val := fun e => by
        have h4 := hinj _ _ e
        have h5 := (List.getElem_inj (h₀ := hi') (h₁ := hj') (xs := d'.toList) (i := i) (j := j) hnd).1 (by simpa using h4)
        omega
      rcases LT.tot hd (hin d'[i]) (hin d'[j]) hne with h6 | h6
      · exact h6
      · have : ltOf (fun i j : Fin (n + 1) => cfc l (cAt l i) (cAt l j)) d'[j] d'[i] = true := decide_eq_true ((cfc_neg _ _ _).2 h6)
        rw [this] at h3; cases h3
    · rw [hw]
      have h7 := heap_sort (enc := fun i : Fin (n + 1) => Value.int .i64 (i.val : Int)) (n := k) (os := os) d' hG
      have h8 : Sort.putCells (fun i : Fin (n + 1) => Value.int .i64 (i.val : Int)) 0 d' (arrI (upto l.length)) = arrI ((d'.toList.map fun i => cAt l i.val).map (pl l)) := by
        apply Array.ext_getElem?
        intro j
        by_cases hj : j < n + 1
        · have hj' : j < d'.size := by omega
          have hjv : (d'[j]).val < l.length := by have := (d'[j]).isLt; omega
          obtain ⟨x, hx⟩ : ∃ x, l[(d'[j]).val]? = some x := ⟨l[(d'[j]).val]'hjv, List.getElem?_eq_getElem hjv⟩
          rw [arrI_at (x := ((d'[j]).val : Int))]
          · unfold Sort.putCells
            rw [Array.getElem?_mapIdx, arrI_at (by rw [hl]; exact upto_at hj)]
            simp [hsz, hj, hget j hj']
          · rw [List.map_map, List.getElem?_map, Array.getElem?_toList, Array.getElem?_eq_getElem hj']
            show some (pl l (cAt l (d'[j]).val)) = _
            rw [cAt_at hx]
            unfold pl
            rw [idx_at hd hx]
        · rw [Array.getElem?_eq_none (by unfold Sort.putCells arrI; simp [upto_len, hl]; omega), Array.getElem?_eq_none (by unfold arrI; simp; omega)]
      rw [← h8]
      exact h7
/-- 0, 1, .. up to a place; 0 from there on. -/
theorem upto_put {n k : Nat} {zs : List Int} (h : zs.length = n ∧ ∀ j : Nat, j < k → zs[j]? = some (j : Int)) (hk : k < n) : (zs.set k (k : Int)).length = n ∧ ∀ j : Nat, j < k + 1 → (zs.set k (k : Int))[j]? = some (j : Int) := by
  obtain ⟨h1, h2⟩ := h
  refine ⟨by rw [List.length_set]; exact h1, fun j hj => ?_⟩
  rcases Nat.lt_or_ge j k with h | h
  · rw [List.getElem?_set_ne (by omega)]; exact h2 j h
  · obtain rfl : j = k := by omega
    rw [List.getElem?_set_self (by omega)]
theorem upto_done {n : Nat} {zs : List Int} (h : zs.length = n ∧ ∀ j : Nat, j < n → zs[j]? = some (j : Int)) : zs = upto n := by
  apply List.ext_getElem?
  intro j
  by_cases hj : j < n
  · rw [h.2 j hj, upto_at hj]
  · rw [List.getElem?_eq_none (by omega), List.getElem?_eq_none (by rw [upto_len]; omega)]
set_option maxHeartbeats 4000000 in
set_option maxRecDepth 100000 in
theorem sorted_c (v0 : Value) (l : List It) (gB c2 : Nat) (w : World) (hR : RdT w v0 l) (hd : Dis l) (hn : l.length ≤ 128) (hQ : Blk w gB 3 (arrI (l.map fun x => bd l x.c))) :
    Calls Try.prog 28 #[v0, .slice (some ⟨gB, 0, none⟩) l.length c2] w fun e w' => ∃ g S, e = .returned (.slice (some ⟨g, 0, none⟩) l.length l.length) ∧ Blk w' g 3 (arrI (S.map (pl l))) ∧ Srt l S ∧ w.heap.size ≤ g ∧ Below w.heap.size w w' := by
  have HS := Lib.hid (fun g gb gl W h1 h2 h3 h4 h5 h6 h7 h8 h9 => sort9 v0 l g gb gB gl c2 w W hd hR h1 h2 hn h3 h4 h5 h6 h7 h8 h9)
  have hR0 := hR
  obtain ⟨p, c, rfl, -⟩ := hR
  obtain ⟨n, hln⟩ : ∃ n, n = l.length := ⟨_, rfl⟩
  rw [← hln] at hn HS ⊢
  have hmk := fun W => make_c n hn W
  obtain ⟨wa, hwa⟩ : ∃ u, u = (w.alloc (.cells #[.slice p n c] 22)).alloc (.cells #[.slice (some ⟨gB, 0, none⟩) n c2] 27) := ⟨_, rfl⟩
  have hL : Blk wa w.heap.size 22 #[.slice p n c] := by rw [hwa]; exact (Blk.new w _ _).alloc _
  have hBb : Blk wa (w.heap.size + 1) 27 #[.slice (some ⟨gB, 0, none⟩) n c2] := by rw [hwa]; have := Blk.new (w.alloc (.cells #[.slice p n c] 22)) 27 #[.slice (some ⟨gB, 0, none⟩) n c2]; rwa [World.size_alloc] at this
  have hBa : Below w.heap.size w wa := by rw [hwa]; exact ((Below.refl _ _).alloc (Nat.le_refl _) _).alloc (by simp) _
  have hQa : Blk wa gB 3 (arrI (l.map fun x => bd l x.c)) := hQ.next hBa
  have hsz : wa.heap.size = w.heap.size + 2 := by rw [hwa]; simp
  obtain ⟨wb, hwb⟩ : ∃ u, u = wa.alloc (.cells (arrI (List.replicate n 0)) 3) := ⟨_, rfl⟩
  have hL2 : Blk wb w.heap.size 22 #[.slice p n c] := by rw [hwb]; exact hL.alloc _
  have hBb2 : Blk wb (w.heap.size + 1) 27 #[.slice (some ⟨gB, 0, none⟩) n c2] := by rw [hwb]; exact hBb.alloc _
  have hQ2 : Blk wb gB 3 (arrI (l.map fun x => bd l x.c)) := by rw [hwb]; exact hQa.alloc _
  have hG2 : Blk wb wa.heap.size 3 (arrI (List.replicate n 0)) := by rw [hwb]; exact Blk.new _ _ _
  have hB2 : Below w.heap.size w wb := by rw [hwb]; exact hBa.alloc hBa.size _
  obtain ⟨g, hg⟩ : ∃ g, g = wa.heap.size := ⟨_, rfl⟩
  rw [← hg] at hG2
  have HGW : Hid (w.heap.size ≤ g) := by rw [hg, hsz]; exact Nat.le_add_right _ _
  have n1 : gB ≠ g := by have := hQ.lt; omega
  have n2 : w.heap.size + 1 ≠ g := by omega
  have n3 : w.heap.size ≠ g := by omega
  have N1 := Lib.hid n1
  have N2 := Lib.hid n2
  have N3 := Lib.hid n3
  have HWA := Lib.hid hwa
  have HWB := Lib.hid hwb
  have HGG := Lib.hid hg
  have l0 := hL.at_ (i := 0) rfl
  have l1 := hL2.at_ (i := 0) rfl
  clear hR0 hd hQ hQa hL hBb hBa hsz hwa hwb hg n1 n2 n3 hln
  go_enter Try.func28, Try.ntmps28
  go_upto_region 1 with fail
  rewrite [← HWA.out]
  go_upto_region 2 with fail
  rewrite [← HGG.out, ← HWB.out]
  clear HWA HGG HWB l0
  go_upto_region 3 with fail
  clear l1
  go_loopw [12] (fun z wr => ∃ (k : Nat) (zs : List Int), k ≤ n ∧ z = .int .i64 k ∧ Below w.heap.size w wr ∧ Blk wr w.heap.size 22 #[.slice p n c] ∧ Blk wr (w.heap.size + 1) 27 #[.slice (some ⟨gB, 0, none⟩) n c2] ∧ Blk wr gB 3 (arrI (l.map fun x => bd l x.c)) ∧ Blk wr g 3 (arrI zs) ∧ Asd (zs.length = n ∧ ∀ j : Nat, j < k → zs[j]? = some (j : Int))) (fun z _ => n - (intOf z).toNat)
  case atStart => exact ⟨0, _, Nat.zero_le _, rfl, hB2, hL2, hBb2, hQ2, hG2, by simp, fun j hj => absurd hj (Nat.not_lt_zero j)⟩
  case round =>
    clear hB2 hL2 hBb2 hQ2 hG2
    obtain ⟨k, zs, hk, rfl, hB, hL, hb, hQ, hG, hA⟩ := hrel
    have HA := Lib.hid (show zs.length = n ∧ ∀ j : Nat, j < k → zs[j]? = some (j : Int) from hA)
    clear hA
    by_cases hlt : k < n
    · have hi0 : (0 : Int) ≤ (k : Int) := by omega
      have hi1 : (k : Int) < (n : Int) := by omega
      obtain ⟨z0, hz0⟩ : ∃ z, zs[k]? = some z := ⟨_, List.getElem?_eq_getElem (by rw [HA.out.1]; exact hlt)⟩
      have c0 := hG.at_ (arrI_at hz0)
      have f0 := hG.frozen k
      have HA2 := Lib.hid (upto_put HA.out hlt)
      have HB9 := Lib.hid (Below.setCell (p := ⟨g, k, none⟩) hB HGW.out (.int .i64 k))
      have HL9 := Lib.hid (hL.far (p := ⟨g, k, none⟩) N3.out (.int .i64 k))
      have Hb9 := Lib.hid (hb.far (p := ⟨g, k, none⟩) N2.out (.int .i64 k))
      have HQ9 := Lib.hid (hQ.far (p := ⟨g, k, none⟩) N1.out (.int .i64 k))
      have HG9 : Hid (Blk (wr.setCell ⟨g, k, none⟩ (.int .i64 k)) g 3 (arrI (zs.set k (k : Int)))) := by rw [← arrI_set]; exact hG.set_ k _
      clear hB hL hb hQ hG hz0
      go_wp2_with fail
      go_roundw
      case rel => exact ⟨k + 1, _, by omega, by go_num, HB9.out, HL9.out, Hb9.out, HQ9.out, HG9.out, HA2.out⟩
      case measure => simp [intOf]; omega
    · obtain rfl : k = n := by omega
      rw [upto_done HA.out] at hG
      have HC := Lib.hid (HS.out g (w.heap.size + 1) w.heap.size wr hB HGW.out hQ hb hL N1.out N2.out N3.out hG)
      have HB := Lib.hid hB
      clear hB hL hb hQ hG
      go_wp2_with fail
      with_reducible refine HC.out.mono ?_
      rintro e w1 ⟨rfl, ⟨S, hS, hG1⟩, hgr⟩
      have HSS := Lib.hid hS
      have HG1 := Lib.hid hG1
      have HB1 := Lib.hid (below_only HB.out hgr HB.out.size (fun q h => by cases h; exact HGW.out))
      clear hS hG1 hgr
      go_wp2_with fail
      go_ret
      exact ⟨g, S, rfl, HG1.out, HSS.out, HGW.out, HB1.out⟩
end Go.Proofs.Ytgioeijdgoogkaa.Od
