/- Texts SuM SuN SuO SuP SuA. -/
import Derived.Test.YtnhchpiafchdgaaGreatSvS
import Derived.Test.YtnhchpiafchdgaaGreatTaq
import Derived.Lib.SlKeysI
import Derived.Test.YtnhchpiafchdgaaGreatTas
import Derived.Laws.AppendOwnNone
import Derived.Test.YtnhchpiafchdgaaGreatTaa
namespace Go.Proofs.YtnhchpiafchdgaaGreat
open Go.RowKit Go.Shelf Go.Maps Go.Sort
structure Asc {α : Type} (f : Int → Option α) (js : List Int) : Prop where
 up : js.Pairwise (fun a b => a < b)
 mem : ∀ x, x ∈ js ↔ I64 x ∧ (f x).isSome = true
theorem sortsI (m : Nat) : AnyZI.SortsIn Tryz.prog sortedI_ren Fence.wide m :=
 ⟨fun blk off cap ss W hH hblk hsz => callsIn_wide.2 (AnyM.slices_Sort_int sortI blk off cap ss W hH hblk hsz),
  fun p cap W => callsIn_wide.2 (AnyM.slices_Sort_int_none sortI p cap W)⟩
theorem wf_to_I64 {x : Int} (h : (Lit.int .i64 x).wf = true) : I64 x := by
 unfold I64
 simp [Lit.wf, IntKind.min, IntKind.max, IntKind.signed, IntKind.bits] at h
 omega
theorem asc_of {α : Type} {E : Elt α} {z : α} {w : World} {b n : Nat} {D : DataW Unit} {f : Int → Option α} (h : w.ownsMap Tryz.prog 3 E.el b n D) (r : ∀ i, I64 i → D.atKey (keyI i) (E.lit z) = E.lit ((f i).getD z) ∧ Maps.has D (keyI i) = (f i).isSome) {ss : List Int} (hp : ss.Perm (intKeys D)) :
   Asc f (ss.mergeSort fun x y => decide (x ≤ y)) ∧ (ss.mergeSort fun x y => decide (x ≤ y)).length = Maps.size D := by
 obtain ⟨es, hD, hpw, _⟩ := h.entries keyed
 obtain ⟨es', hD', hko⟩ := h.keysOf
 obtain rfl : es = es' := by rw [hD] at hD'; simpa using hD'
 have hle := intKeys_wf h Tryz.underlying3
 subst hD
 have hk : ∀ p ∈ es, ∃ x, p.1 = .int .i64 x := fun p hp => by obtain ⟨v, hv⟩ := hko p hp; obtain ⟨x, _, hx, _⟩ := Maps.keyOf_i64 Tryz.underlying3 hv; exact ⟨x, hx⟩
 have hnd : (intKeys (.map es)).Nodup := List.pairwise_map.2 (hpw.imp_of_mem fun {p q} hp' hq' hne e => hne (by
   obtain ⟨a, ha⟩ := hk p hp'
   obtain ⟨c, hc⟩ := hk q hq'
   rw [ha, hc] at e ⊢
   exact congrArg _ e))
 have hmem : ∀ x, x ∈ intKeys (.map es) ↔ Maps.has (.map es) (.int .i64 x) = true := fun x => by
   rw [Maps.has_eq, List.any_eq_true]
   show x ∈ es.map _ ↔ _
   rw [List.mem_map]
   constructor
   · rintro ⟨p, hp', rfl⟩
     obtain ⟨a, ha⟩ := hk p hp'
     exact ⟨p, hp', by rw [ha]; simp [Lit.sameKey, Go.intOf]⟩
   · rintro ⟨p, hp', hs⟩
     obtain ⟨a, ha⟩ := hk p hp'
     rw [ha] at hs
     exact ⟨p, hp', by rw [ha]; simpa [Lit.sameKey, Go.intOf] using hs⟩
 have hperm := (List.mergeSort_perm ss fun x y => decide (x ≤ y)).trans hp
 have hup : (ss.mergeSort fun x y => decide (x ≤ y)).Pairwise (fun a b => decide (a ≤ b) = true) := List.pairwise_mergeSort (fun a b c h1 h2 => by simp at *; omega) (fun a b => by simp; omega) ss
 have hnd2 : (ss.mergeSort fun x y => decide (x ≤ y)).Nodup := hperm.nodup_iff.2 hnd
 refine ⟨⟨?_, fun x => ?_⟩, ?_⟩
 · exact List.Pairwise.imp₂ (fun a b h1 h2 => by have := of_decide_eq_true h1; have h3 : a ≠ b := h2; omega) hup hnd2
 · rw [hperm.mem_iff, hmem x]
   constructor
   · intro hx
     have hI := wf_to_I64 (hle x ((hmem x).2 hx))
     have := (r x hI).2
     rw [show keyI x = .int .i64 x from rfl, hx] at this
     exact ⟨hI, this.symm⟩
   · rintro ⟨hI, hx⟩
     have := (r x hI).2
     rw [show keyI x = .int .i64 x from rfl, hx] at this
     exact this
 · rw [hperm.length_eq]
   show (es.map _).length = es.length
   rw [List.length_map]
abbrev iterU (g : Nat) : Value := .func (.func 102) #[] #[.pointer (some ⟨g, 0, none⟩)]
theorem keysU_c (mb : Option Nat) (W : World) : Calls Tryz.prog 75 #[.map mb] W fun e w' => e = .returned (iterU W.heap.size) ∧ w' = W.alloc (.cells #[.map mb] 78) :=
 (callsIn_wide (n := 5)).1 (AnyZI.keys_in keysU Fence.wide 5 trivial rfl mb W)
set_option maxHeartbeats 1000000 in
theorem sortedU_c {w : World} {b n : Nat} {f : Int → Option Unit} (h : MapG eltU () w b f n) (hn : n ≤ 1048576) :
  Calls Tryz.prog 74 #[iterU w.heap.size] (w.alloc (.cells #[.map (some b)] 78)) fun e w' => ∃ (v : Value) (js : List Int), e = .returned v ∧ Asc f js ∧ js.length = n ∧
   w'.ownsRow (w.heap.size + 1) 3 1 v js.length (js.map encZ) ∧ Below (w.heap.size + 1) (w.alloc (.cells #[.map (some b)] 78)) w' := by
 obtain ⟨D, hD, hsz, r⟩ := h
 have hbl := hD.lt
 have hseq : SeqGives Fence.wide 2 Tryz.prog 102 #[.pointer (some ⟨w.heap.size, 0, none⟩)] encZ (fun ss => ss.Perm (intKeys D)) (Maps.size D) (w.alloc (.cells #[.map (some b)] 78)) :=
  AnyZI.keys_gives (ρ := keysU_ren) { keysU with } Fence.wide _ trivial rfl (by omega) w.heap.size b n D _ (by simp) (by simp) (by
   obtain ⟨es, clock, hb, Ft, hs, hD⟩ := hD
   exact ⟨es, clock, (Below.heap_alloc _ _ b hbl).trans hb, Ft, hs, hD⟩)
 have hs := (callsIn_wide (n := 5)).1 (AnyZI.sorted_in sortedI Fence.wide 5 trivial trivial trivial trivial rfl (by omega) (sortsI _) (enters_of Tryz.func101 (by kernel_rfl) rfl) 102 #[.pointer (some ⟨w.heap.size, 0, none⟩)] trivial (enters_of Tryz.func102 (by kernel_rfl) rfl) _ _ (by rw [hsz]; unfold maxLen; omega) (by rw [hsz]; omega) _ hseq)
 rw [World.size_alloc] at hs
 refine Calls.mono hs ?_
 rintro e w' ⟨v, ss, he, hp, ho, -, hb⟩
 obtain ⟨h1, h2⟩ := asc_of (E := eltU) (z := ()) hD r hp
 exact ⟨v, _, he, h1, h2.trans hsz, by rw [List.length_mergeSort]; exact ho, hb⟩
abbrev iterN (g : Nat) : Value := .func (.func 108) #[] #[.pointer (some ⟨g, 0, none⟩)]
theorem keysN_c (mb : Option Nat) (W : World) : Calls Tryz.prog 78 #[.map mb] W fun e w' => e = .returned (iterN W.heap.size) ∧ w' = W.alloc (.cells #[.map mb] 77) :=
 (callsIn_wide (n := 5)).1 (AnyZI.keys_in keysN Fence.wide 5 trivial rfl mb W)
set_option maxHeartbeats 1000000 in
theorem sortedN_c {w : World} {b n : Nat} {f : Int → Option Int} (h : MapG eltN 0 w b f n) (hn : n ≤ 1048576) :
  Calls Tryz.prog 74 #[iterN w.heap.size] (w.alloc (.cells #[.map (some b)] 77)) fun e w' => ∃ (v : Value) (js : List Int), e = .returned v ∧ Asc f js ∧ js.length = n ∧
   w'.ownsRow (w.heap.size + 1) 3 1 v js.length (js.map encZ) ∧ Below (w.heap.size + 1) (w.alloc (.cells #[.map (some b)] 77)) w' := by
 obtain ⟨D, hD, hsz, r⟩ := h
 have hbl := hD.lt
 have hseq : SeqGives Fence.wide 2 Tryz.prog 108 #[.pointer (some ⟨w.heap.size, 0, none⟩)] encZ (fun ss => ss.Perm (intKeys D)) (Maps.size D) (w.alloc (.cells #[.map (some b)] 77)) :=
  AnyZI.keys_gives (ρ := keysN_ren) { keysN with } Fence.wide _ trivial rfl (by omega) w.heap.size b n D _ (by simp) (by simp) (by
   obtain ⟨es, clock, hb, Ft, hs, hD⟩ := hD
   exact ⟨es, clock, (Below.heap_alloc _ _ b hbl).trans hb, Ft, hs, hD⟩)
 have hs := (callsIn_wide (n := 5)).1 (AnyZI.sorted_in sortedI Fence.wide 5 trivial trivial trivial trivial rfl (by omega) (sortsI _) (enters_of Tryz.func101 (by kernel_rfl) rfl) 108 #[.pointer (some ⟨w.heap.size, 0, none⟩)] trivial (enters_of Tryz.func108 (by kernel_rfl) rfl) _ _ (by rw [hsz]; unfold maxLen; omega) (by rw [hsz]; omega) _ hseq)
 rw [World.size_alloc] at hs
 refine Calls.mono hs ?_
 rintro e w' ⟨v, ss, he, hp, ho, -, hb⟩
 obtain ⟨h1, h2⟩ := asc_of (E := eltN) (z := 0) hD r hp
 exact ⟨v, _, he, h1, h2.trans hsz, by rw [List.length_mergeSort]; exact ho, hb⟩
end Go.Proofs.YtnhchpiafchdgaaGreat
namespace Go.Proofs.YtnhchpiafchdgaaGreat
open Go.RowKit Go.Shelf Go.Maps
def Xs.put (X : Xs) (i : Int) : Xs := { X with L := (tRepar X.R i 0 (landR X.R X.L i).x (landR X.R X.L i).y X.L).1 }
def savedL (M : List Md) : List Int := (M.filter (·.sav)).map (·.win)
def unsav (M : List Md) : List Md := M.map fun m => ⟨m.win, m.own, false⟩
def Xs.release (X : Xs) : Xs := { (savedL X.M).foldl Xs.put X with M := unsav X.M }
theorem putF_parts : ∀ (js : List Int) (X : Xs), (js.foldl Xs.put X).R = X.R ∧ (js.foldl Xs.put X).H = X.H ∧ (js.foldl Xs.put X).M = X.M ∧ (js.foldl Xs.put X).F = X.F ∧ (js.foldl Xs.put X).G = X.G ∧ (js.foldl Xs.put X).E = X.E
 | [], _ => ⟨rfl, rfl, rfl, rfl, rfl, rfl⟩
 | i :: js, X => putF_parts js (X.put i)
theorem V0.put {X : Xs} {k : Nat} (h : V0 X k) {i : Int} (hi : I64 i) : V0 (X.put i) k := h.tree (t_repar h.s hi i64_zero _ _).1 (inL_repar X.R i 0 _ _ X.L)
theorem V0.puts {k : Nat} : ∀ {js : List Int} {X : Xs}, V0 X k → (∀ i ∈ js, I64 i) → V0 (js.foldl Xs.put X) k
 | [], _, h, _ => h
 | i :: js, X, h, hj => V0.puts (js := js) (X := X.put i) (V0.put h (hj i (by simp))) fun x hx => hj x (by simp [hx])
theorem up_int : ∀ {a b : List Int}, a.Pairwise (fun x y => x < y) → b.Pairwise (fun x y => x < y) → (∀ x, x ∈ a ↔ x ∈ b) → a = b
 | [], [], _, _, _ => rfl
 | [], y :: b, _, _, h => by have := (h y).2 (by simp); cases this
 | x :: a, [], _, _, h => by have := (h x).1 (by simp); cases this
 | x :: a, y :: b, ha, hb, h => by
  rw [List.pairwise_cons] at ha hb
  have hxy : x = y := by
    apply Classical.byContradiction
    intro hne
    have h1 : x ∈ b := by
      rcases List.mem_cons.1 ((h x).1 (by simp)) with e | e
      · exact absurd e hne
      · exact e
    have h2 : y ∈ a := by
      rcases List.mem_cons.1 ((h y).2 (by simp)) with e | e
      · exact absurd e.symm hne
      · exact e
    have := ha.1 y h2
    have := hb.1 x h1
    omega
  subst hxy
  have hne : ∀ z ∈ a, z ≠ x := fun z hz e => by have := ha.1 z hz; omega
  have hne' : ∀ z ∈ b, z ≠ x := fun z hz e => by have := hb.1 z hz; omega
  rw [up_int ha.2 hb.2 fun z => ?_]
  constructor
  · intro hz
    rcases List.mem_cons.1 ((h z).1 (List.mem_cons_of_mem _ hz)) with e | e
    · exact absurd e (hne z hz)
    · exact e
  · intro hz
    rcases List.mem_cons.1 ((h z).2 (List.mem_cons_of_mem _ hz)) with e | e
    · exact absurd e (hne' z hz)
    · exact e
theorem saved_mem {M : List Md} (hu : M.Pairwise (fun a b => a.win < b.win)) (x : Int) : x ∈ savedL M ↔ savM x M = true := by
 unfold savedL savM
 rw [List.mem_map]
 constructor
 · rintro ⟨m, hm, rfl⟩
   rw [List.mem_filter] at hm
   rw [mfind_in hu hm.1]
   exact hm.2
 · intro h
   cases hf : findM x M with
   | none => rw [hf] at h; cases h
   | some m =>
    rw [hf] at h
    obtain ⟨h1, h2⟩ := mfind_mem hf
    exact ⟨m, List.mem_filter.2 ⟨h1, h⟩, h2⟩
theorem saved_up {M : List Md} (hu : M.Pairwise (fun a b => a.win < b.win)) : (savedL M).Pairwise (fun x y => x < y) := by
 unfold savedL
 rw [List.pairwise_map]
 exact hu.filter _
theorem V0.saved_i64 {X : Xs} {k : Nat} (h : V0 X k) {x : Int} (hx : x ∈ savedL X.M) : I64 x := by
 unfold savedL at hx
 obtain ⟨m, hm, rfl⟩ := List.mem_map.1 hx
 exact in_i64 h ⟨m, (List.mem_filter.1 hm).1, rfl⟩
theorem V0.saved_asc {X : Xs} {k : Nat} (h : V0 X k) {js : List Int} (ha : Asc (savF X.M) js) : js = savedL X.M :=
 up_int ha.up (saved_up h.up) fun x => by
  rw [ha.mem, saved_mem h.up]
  unfold savF
  constructor
  · rintro ⟨_, h2⟩
    split at h2
    · next e => exact e
    · cases h2
  · intro h2
    exact ⟨h.saved_i64 ((saved_mem h.up x).2 h2), by rw [if_pos h2]; rfl⟩
theorem savF_unsav (M : List Md) : savF (unsav M) = fun _ => none := by
 funext i
 unfold savF savM
 rw [if_neg]
 intro h
 split at h
 · next m hm =>
   obtain ⟨h1, -⟩ := mfind_mem hm
   unfold unsav at h1
   obtain ⟨m0, _, rfl⟩ := List.mem_map.1 h1
   cases h
 · cases h
theorem makF_unsav (M : List Md) : makF (unsav M) = makF M := by
 funext i
 unfold makF findM unsav
 rw [List.find?_map]
 have : ((fun m : Md => decide (m.win = i)) ∘ fun m : Md => (⟨m.win, m.own, false⟩ : Md)) = fun m => decide (m.win = i) := rfl
 rw [this]
 cases List.find? (fun m : Md => decide (m.win = i)) M <;> rfl
section
variable {w w' wr : World} {s : Nat} {Y Y1 : Yl} {X X' : Xs} {k m : Nat}
def LpS (w : World) (s : Nat) (Y : Yl) (k : Nat) (v : Value) (js : List Int) (X : Xs) (wr : World) : Prop :=
 ∃ Y1, Srv wr s Y1 X k ∧ Turn (Y.foot s) (Y1.foot s) w wr ∧ RdI wr v js ∧ (js ≠ [] → ∀ r, v.ownBlock = some r → r < wr.heap.size ∧ ¬ Y1.foot s r)
theorem LpS.turn {v : Value} {js : List Int} (hY : Srv wr s Y1 X k ∧ Turn (Y.foot s) (Y1.foot s) w wr ∧ RdI wr v js ∧ (js ≠ [] → ∀ r, v.ownBlock = some r → r < wr.heap.size ∧ ¬ Y1.foot s r)) (k1 : SrvTo wr s Y1 X' k w') : LpS w s Y k v js X' w' := by
 obtain ⟨h1, h2, h3, h4⟩ := hY
 obtain ⟨Y2, h5, h6⟩ := k1
 refine ⟨Y2, h5, h2.trans h6, rdI_turn h3 h6 h4, fun hne r hr => ?_⟩
 obtain ⟨h7, h8⟩ := h4 hne r hr
 exact ⟨Nat.lt_of_lt_of_le h7 h6.size, h6.not h7 h8⟩
theorem LpS.start {v : Value} {js : List Int} (h : Srv w s Y X k) (ho : w'.ownsRow (w.heap.size + 1) 3 1 v js.length (js.map encZ)) (hb : Below w.heap.size w w') : LpS w s Y k v js X w' := by
 refine ⟨Y, h.next hb, Turn.of_below hb, RdI.of ho, fun hne r hr => ?_⟩
 have hl := (World.ownsRow.lt ho r hr)
 exact ⟨hl.2, fun hf => by have := h.foot_lt hf; omega⟩
theorem Srv.tree_to2 (h : Srv w s Y X k) {L' : List Win} (hc : CT X.R L' Y.t Y.l w w') : w'.cell? ⟨s, 0, none⟩ = some (treeP Y.t) ∧ SrvTo w s Y { X with L := L' } k w' := by
 obtain ⟨col, h⟩ := h
 obtain ⟨l', h1, h2⟩ := h.treed hc
 exact ⟨h1.srv.at_ (i := 0) rfl, _, ⟨_, h1⟩, h2⟩
theorem Srv.clear_sav (h : Srv w s Y X k) (ty : TypeId) : ∃ w', (Builtin.clear_ #[78] ty #[.map (some Y.sp)]).run Tryz.prog w = .ok (.tuple #[]) w' ∧ SrvTo w s Y { X with M := unsav X.M } k w' := by
 obtain ⟨col, h⟩ := h
 obtain ⟨n, hn, hm⟩ := h.sav
 obtain ⟨w', h1, h2, h3⟩ := hm.clear Tryz.underlying78 ty
 obtain ⟨h4, h5⟩ := h.saved (Nat.le_refl k) (Nat.zero_le _) h2 h3
 refine ⟨w', h1, Y, ⟨paintC w col 4, ?_⟩, h5⟩
 have h6 := h4.as (X' := { X with M := unsav X.M }) rfl rfl rfl rfl
 rw [← savF_unsav X.M, ← makF_unsav X.M] at h6
 exact h6
set_option maxRecDepth 100000 in
set_option maxHeartbeats 8000000 in
theorem release_c (h : Srv w s Y X k) (hV : V0 X k) : Calls Tryz.prog 52 #[srvP s] w fun ex w' => ex = .returned (.tuple #[]) ∧ SrvTo w s Y X.release k w' := by
 obtain ⟨⟨b0, b1, b2, b3, b4, b5, b6⟩, -⟩ := h.blk.c7
 have hkn : k ≤ 1000 := hV.s.most
 have hsv : ∃ n, n ≤ k ∧ MapG eltU () w Y.sp (savF X.M) n := by obtain ⟨col, hc⟩ := h; exact hc.sav
 obtain ⟨n0, hn0, hmap⟩ := hsv
 have HK := Lib.hid (keysU_c (some Y.sp) w)
 have HSO := Lib.hid (show Calls Tryz.prog 74 #[iterU w.heap.size] (w.alloc (.cells #[.map (some Y.sp)] 78)) fun e w' => ∃ v, e = .returned v ∧ LpS w s Y k v (savedL X.M) X w' ∧ (savedL X.M).length ≤ 1000 from by
  refine (sortedU_c hmap (by omega)).mono ?_
  rintro e w1 ⟨v, js, rfl, ha, hl, ho, hb⟩
  obtain rfl := hV.saved_asc ha
  refine ⟨v, rfl, LpS.start h ho ?_, by omega⟩
  exact (((Below.refl _ w).alloc (Nat.le_refl _) _).trans (hb.mono (Nat.le_succ _))))
 have HV := Lib.hid (fun j : Nat => (show V0 (((savedL X.M).take j).foldl Xs.put X) k from V0.puts hV fun x hx => hV.saved_i64 (List.mem_of_mem_take hx)))
 have H64 := Lib.hid (fun (x : Int) (hx : x ∈ savedL X.M) => hV.saved_i64 hx)
 obtain ⟨js, hjs⟩ : ∃ js, savedL X.M = js := ⟨_, rfl⟩
 have HREL := Lib.hid (show X.release = { js.foldl Xs.put X with M := unsav (js.foldl Xs.put X).M } from by unfold Xs.release; rw [hjs, (putF_parts js X).2.2.1])
 rw [hjs] at HSO HV H64
 obtain ⟨XR, hXR⟩ : ∃ XR, X.release = XR := ⟨_, rfl⟩
 rw [hXR] at HREL ⊢
 clear hjs hXR hmap hn0 hkn hV
 go_enter Tryz.func52, Tryz.ntmps52
 go_upto_region 1 with (first
  | (go_at_call 75; ((with_reducible refine (HK.out).mono ?_); rintro e w1 ⟨rfl, rfl⟩))
  | (go_at_call 74; ((with_reducible refine (HSO.out).mono ?_); rintro e w1 ⟨v, rfl, hL, hlen⟩); have HL0 := Lib.hid hL; obtain ⟨Y9, -, -, hr9, -⟩ := hL; obtain ⟨p, c, hv⟩ := rdI_own hr9; subst hv; clear hr9))
 obtain ⟨n, hn⟩ : ∃ n, n = js.length := ⟨_, rfl⟩
 have HN := Lib.hid hn
 rw [← hn] at hlen ⊢
 have hn0 : (n : Int) ≤ 1000 := by omega
 clear hn hlen
 go_wp2_with fail
 go_loopw [11] (fun z wr => ∃ j : Nat, j ≤ n ∧ z = .int .i64 j ∧ LpS w s Y k (.slice p n c) js ((js.take j).foldl Xs.put X) wr) (fun z _ => n - (intOf z).toNat)
 case atStart => exact ⟨0, Nat.zero_le _, rfl, by rw [HN.out]; exact HL0.out⟩
 case round =>
  obtain ⟨j, hj, rfl, hD⟩ := hrel
  by_cases hlt : j < n
  · obtain ⟨x, hx⟩ : ∃ x, js[j]? = some x := ⟨_, List.getElem?_eq_getElem (by rw [← HN.out]; exact hlt)⟩
    have hi6 := H64.out x (List.mem_of_getElem? hx)
    obtain ⟨Y1, hY⟩ := hD
    obtain ⟨S1, U1, R1, N1⟩ := hY
    obtain ⟨p', c', hpe, hcell⟩ := R1
    obtain ⟨g, hp, hcx⟩ := hcell j x hx
    simp only [Value.slice.injEq] at hpe
    obtain ⟨rfl, -, rfl⟩ := hpe
    subst hp
    have HY := Lib.hid (show Srv wr s Y1 ((js.take j).foldl Xs.put X) k ∧ Turn (Y.foot s) (Y1.foot s) w wr ∧ RdI wr (.slice (some ⟨g, 0, none⟩) n c) js ∧ (js ≠ [] → ∀ r, (Value.slice (some ⟨g, 0, none⟩) n c).ownBlock = some r → r < wr.heap.size ∧ ¬ Y1.foot s r) from ⟨S1, U1, ⟨_, c, by rw [HN.out], hcell⟩, N1⟩)
    have hsn : (js.take (j + 1)).foldl Xs.put X = ((js.take j).foldl Xs.put X).put x := by rw [show js.take (j + 1) = js.take j ++ [x] by rw [List.take_add_one, hx]; rfl, List.foldl_append]; rfl
    have hV2 := HV.out j
    obtain ⟨X2, hX2⟩ : ∃ X2, X2 = (js.take j).foldl Xs.put X := ⟨_, rfl⟩
    rw [← hX2] at S1 hsn hV2
    have HT := Lib.hid (fun (W : World) (hT : SrvTo wr s Y1 (X2.put x) k W) => (show LpS w s Y k (.slice (some ⟨g, 0, none⟩) n c) js ((js.take (j + 1)).foldl Xs.put X) W from by rw [hsn]; exact LpS.turn HY.out hT))
    have hi0' : (0 : Int) ≤ (j : Int) := by omega
    have hi1 : (j : Int) < (n : Int) := by omega
    have HS := Lib.hid S1
    have HLA := Lib.hid (fun (W : World) (h : Srv W s Y1 X2 k) => landing_c h hV2.s hi6)
    have HRE := Lib.hid (fun (W : World) (hb : Below wr.heap.size wr W) => (show Calls Tryz.prog 76 #[treeP Y1.t, .int .i64 x, .int .i64 0, .agg #[.int .i64 (landR X2.R X2.L x).x, .int .i64 (landR X2.R X2.L x).y]] W fun ex w' => ex = .returned (.int .i64 (tRepar X2.R x 0 (landR X2.R X2.L x).x (landR X2.R X2.L x).y X2.L).2) ∧ (w'.cell? ⟨s, 0, none⟩ = some (treeP Y1.t) ∧ SrvTo wr s Y1 (X2.put x) k w') from by
     have hW := HS.out.next hb
     refine ((t_repar hV2.s hi6 i64_zero (landR X2.R X2.L x).x (landR X2.R X2.L x).y).2.2 W Y1.t Y1.l hW.tree).mono fun ex w' hh => ⟨hh.1, ?_⟩
     obtain ⟨q1, q2⟩ := hW.tree_to2 hh.2
     exact ⟨q1, SrvTo.after hb q2⟩))
    generalize (tRepar X2.R x 0 (landR X2.R X2.L x).x (landR X2.R X2.L x).y X2.L).2 = er at HRE
    generalize landR X2.R X2.L x = lr at HLA HRE
    have d0 := S1.blk.at_ (i := 0) (v := treeP Y1.t) rfl
    clear hx hX2 hsn hV2 S1 U1 N1 hcell
    go_upto_region 3 with fail
    have HSd := Lib.hid (HS.out.next (Below.drew (Below.refl _ _)))
    have d0d := HSd.out.blk.at_ (i := 0) (v := treeP Y1.t) rfl
    refine wp_region_noPanic ?_
    refine wp_region_held_drew (S := fun wx => wx.cell? ⟨s, 0, none⟩ = some (treeP Y1.t)) (by kernel_rfl) (by exact d0d) (fun hHeld => ?_)
    refine tk 0 ?vm0 rfl ?ym0 ?rm0
    case ym0 => (intro q h; (try dsimp only at h); go_simp; (try with_reducible rfl))
    (try simp only [Act.put, p1, p3, p4, p5, p6])
    refine tk 1 ?vm1 rfl ?ym1 ?rm1
    case ym1 => (intro q h; (try dsimp only at h); go_simp; (try with_reducible rfl))
    (try simp only [Act.put, p1, p2, p3, p4, p5, p6])
    refine tk 2 ?vm2 rfl ?ym2 ?rm2
    case ym2 => (intro q h; (try dsimp only at h); go_simp; (try with_reducible rfl))
    (try simp only [Act.put, p1, p2, p3, p4, p5, p6])
    refine tk 3 ?vm3 rfl ?ym3 ?rm3
    case ym3 => (intro q h; (try dsimp only at h); go_simp; (try with_reducible rfl))
    (try simp only [Act.put, p1, p2, p3, p4, p5, p6])
    refine tk 4 ?vm4 rfl ?ym4 ?rm4
    case ym4 => (intro q h; (try dsimp only at h); go_simp; (try with_reducible rfl))
    (try simp only [Act.put, p1, p2, p3, p4, p5, p6])
    refine tk 5 ?vm5 rfl ?ym5 ?rm5
    case ym5 => (intro q h; (try dsimp only at h); go_simp; (try with_reducible rfl))
    (try simp only [Act.put, p1, p2, p3, p4, p5, p6])
    refine tk 6 ?vm6 rfl ?ym6 ?rm6
    case ym6 => (intro q h; (try dsimp only at h); go_simp; (try with_reducible rfl))
    (try simp only [Act.put, p1, p2, p3, p4, p5, p6])
    refine wpAnyH_ready (rs := [7]) (by kernel_rfl) (by simp) ?_
    refine AllReadyH.cons rfl (fun K hK => ?_) AllReadyH.nil
    go_simp
    refine (HLA.out _ HSd.out).mono ?_
    rintro e w1 ⟨rfl, hb1⟩; have HS1 := Lib.hid (HSd.out.next hb1); have HB1 := Lib.hid (hb1.on (Below.drew (Below.refl _ _)) (Nat.le_refl _)); clear hb1
    (try dsimp only)
    refine hK.out _ _ (by exact (HS1.out.blk.at_ (i := 0) (v := treeP Y1.t) rfl)) (fun hHeld => ?_)
    clear hK K
    (try simp only [Act.put, p1, p2, p3, p4, p5, p6])
    refine wpAnyH_ready (rs := [8]) (by kernel_rfl) (by simp) ?_
    refine AllReadyH.cons rfl (fun K hK => ?_) AllReadyH.nil
    go_simp
    refine (HRE.out _ HB1.out).mono ?_
    rintro e w2 ⟨rfl, hc2, hT2⟩; have HT2 := Lib.hid hT2
    (try dsimp only)
    refine hK.out _ _ (by exact hc2) (fun hHeld => ?_)
    clear hK K
    (try simp only [Act.put, p1, p2, p3, p4, p5, p6])
    refine wpAnyH_done (by kernel_rfl) ?_ _
    refine NoPanic.normal ?_
    go_wp2_with fail
    go_roundw
    case rel => exact ⟨j + 1, by omega, by go_num, HT.out _ HT2.out⟩
    case measure => simp [intOf]; omega
  · obtain rfl : j = n := by omega
    obtain ⟨Y1, S1, U1, -⟩ := hD
    rw [HN.out, List.take_length] at S1
    have d3 := (S1.blk.at_ (i := 3) (v := .map (some Y1.sp)) rfl)
    obtain ⟨w5, e5, hT5⟩ := S1.clear_sav 0
    have HT5 := Lib.hid (SrvTo.trans U1 hT5)
    clear S1 U1 hT5
    have hjj : ¬ (j : Int) < (j : Int) := by omega
    go_wp2_with fail
    go_end0
    exact ⟨rfl, by rw [HREL.out]; exact HT5.out⟩
end
end Go.Proofs.YtnhchpiafchdgaaGreat
namespace Go.Proofs.YtnhchpiafchdgaaGreat
open Go.RowKit Go.Shelf Go.Maps
def Xs.swp (X : Xs) (i : Int) : Xs := if makF X.M i = some 0 then X.destroy i else X
def winsL (M : List Md) : List Int := M.map (·.win)
def Xs.sweep (X : Xs) : Xs := (winsL X.M).foldl Xs.swp X
theorem V0.swp {X : Xs} {k : Nat} (h : V0 X k) {i : Int} (hi : I64 i) : V0 (X.swp i) k := by
 unfold Xs.swp
 split
 · exact h.destroyed hi
 · exact h
theorem V0.swps {k : Nat} : ∀ {js : List Int} {X : Xs}, V0 X k → (∀ i ∈ js, I64 i) → V0 (js.foldl Xs.swp X) k
 | [], _, h, _ => h
 | i :: js, X, h, hj => V0.swps (js := js) (X := X.swp i) (V0.swp h (hj i (by simp))) fun x hx => hj x (by simp [hx])
theorem wins_up {M : List Md} (hu : M.Pairwise (fun a b => a.win < b.win)) : (winsL M).Pairwise (fun x y => x < y) := by
 unfold winsL
 rw [List.pairwise_map]
 exact hu
theorem V0.wins_i64 {X : Xs} {k : Nat} (h : V0 X k) {x : Int} (hx : x ∈ winsL X.M) : I64 x := by
 unfold winsL at hx
 obtain ⟨m, hm, rfl⟩ := List.mem_map.1 hx
 exact in_i64 h ⟨m, hm, rfl⟩
theorem V0.wins_asc {X : Xs} {k : Nat} (h : V0 X k) {js : List Int} (ha : Asc (makF X.M) js) : js = winsL X.M :=
 up_int ha.up (wins_up h.up) fun x => by
  rw [ha.mem]
  unfold makF
  rw [Option.isSome_map]
  constructor
  · rintro ⟨_, h2⟩
    obtain ⟨m, hm⟩ := Option.isSome_iff_exists.1 h2
    obtain ⟨h3, h4⟩ := mfind_mem hm
    exact List.mem_map.2 ⟨m, h3, h4⟩
  · intro h2
    refine ⟨h.wins_i64 h2, ?_⟩
    obtain ⟨m, hm, rfl⟩ := List.mem_map.1 h2
    rw [mfind_in h.up hm]; rfl
section
variable {w w' wr : World} {s : Nat} {Y Y1 : Yl} {X X' : Xs} {k m : Nat}
set_option maxRecDepth 100000 in
set_option maxHeartbeats 8000000 in
theorem sweep_c (h : Srv w s Y X k) (hV : V0 X k) : Calls Tryz.prog 53 #[srvP s] w fun ex w' => ex = .returned (.tuple #[]) ∧ SrvTo w s Y X.sweep k w' := by
 obtain ⟨⟨b0, b1, b2, b3, b4, b5, b6⟩, -⟩ := h.blk.c7
 have hkn : k ≤ 1000 := hV.s.most
 have hsv : ∃ n, n ≤ k ∧ MapG eltN 0 w Y.mp (makF X.M) n := by obtain ⟨col, hc⟩ := h; exact hc.mak
 obtain ⟨n0, hn0, hmap⟩ := hsv
 have HK := Lib.hid (keysN_c (some Y.mp) w)
 have HSO := Lib.hid (show Calls Tryz.prog 74 #[iterN w.heap.size] (w.alloc (.cells #[.map (some Y.mp)] 77)) fun e w' => ∃ v, e = .returned v ∧ LpS w s Y k v (winsL X.M) X w' ∧ (winsL X.M).length ≤ 1000 from by
  refine (sortedN_c hmap (by omega)).mono ?_
  rintro e w1 ⟨v, js, rfl, ha, hl, ho, hb⟩
  obtain rfl := hV.wins_asc ha
  refine ⟨v, rfl, LpS.start h ho ?_, by omega⟩
  exact (((Below.refl _ w).alloc (Nat.le_refl _) _).trans (hb.mono (Nat.le_succ _))))
 have HV := Lib.hid (fun j : Nat => (show V0 (((winsL X.M).take j).foldl Xs.swp X) k from V0.swps hV fun x hx => hV.wins_i64 (List.mem_of_mem_take hx)))
 have H64 := Lib.hid (fun (x : Int) (hx : x ∈ winsL X.M) => hV.wins_i64 hx)
 obtain ⟨js, hjs⟩ : ∃ js, winsL X.M = js := ⟨_, rfl⟩
 have HREL := Lib.hid (show X.sweep = js.foldl Xs.swp X from by unfold Xs.sweep; rw [hjs])
 rw [hjs] at HSO HV H64
 obtain ⟨XR, hXR⟩ : ∃ XR, X.sweep = XR := ⟨_, rfl⟩
 rw [hXR] at HREL ⊢
 clear hjs hXR hmap hn0 hkn hV
 go_enter Tryz.func53, Tryz.ntmps53
 go_upto_region 1 with (first
  | (go_at_call 78; ((with_reducible refine (HK.out).mono ?_); rintro e w1 ⟨rfl, rfl⟩))
  | (go_at_call 74; ((with_reducible refine (HSO.out).mono ?_); rintro e w1 ⟨v, rfl, hL, hlen⟩); have HL0 := Lib.hid hL; obtain ⟨Y9, -, -, hr9, -⟩ := hL; obtain ⟨p, c, hv⟩ := rdI_own hr9; subst hv; clear hr9))
 obtain ⟨n, hn⟩ : ∃ n, n = js.length := ⟨_, rfl⟩
 have HN := Lib.hid hn
 rw [← hn] at hlen ⊢
 have hn0 : (n : Int) ≤ 1000 := by omega
 clear hn hlen
 go_wp2_with fail
 go_loopw [11] (fun z wr => ∃ j : Nat, j ≤ n ∧ z = .int .i64 j ∧ LpS w s Y k (.slice p n c) js ((js.take j).foldl Xs.swp X) wr) (fun z _ => n - (intOf z).toNat)
 case atStart => exact ⟨0, Nat.zero_le _, rfl, by rw [HN.out]; exact HL0.out⟩
 case round =>
  obtain ⟨j, hj, rfl, hD⟩ := hrel
  by_cases hlt : j < n
  · obtain ⟨x, hx⟩ : ∃ x, js[j]? = some x := ⟨_, List.getElem?_eq_getElem (by rw [← HN.out]; exact hlt)⟩
    have hi6 := H64.out x (List.mem_of_getElem? hx)
    obtain ⟨Y1, hY⟩ := hD
    obtain ⟨S1, U1, R1, N1⟩ := hY
    obtain ⟨p', c', hpe, hcell⟩ := R1
    obtain ⟨g, hp, hcx⟩ := hcell j x hx
    simp only [Value.slice.injEq] at hpe
    obtain ⟨rfl, -, rfl⟩ := hpe
    subst hp
    have HY := Lib.hid (show Srv wr s Y1 ((js.take j).foldl Xs.swp X) k ∧ Turn (Y.foot s) (Y1.foot s) w wr ∧ RdI wr (.slice (some ⟨g, 0, none⟩) n c) js ∧ (js ≠ [] → ∀ r, (Value.slice (some ⟨g, 0, none⟩) n c).ownBlock = some r → r < wr.heap.size ∧ ¬ Y1.foot s r) from ⟨S1, U1, ⟨_, c, by rw [HN.out], hcell⟩, N1⟩)
    have hsn : (js.take (j + 1)).foldl Xs.swp X = ((js.take j).foldl Xs.swp X).swp x := by rw [show js.take (j + 1) = js.take j ++ [x] by rw [List.take_add_one, hx]; rfl, List.foldl_append]; rfl
    have hV2 := HV.out j
    obtain ⟨X2, hX2⟩ : ∃ X2, X2 = (js.take j).foldl Xs.swp X := ⟨_, rfl⟩
    rw [← hX2] at S1 hsn hV2
    have HT := Lib.hid (fun (W : World) (hT : SrvTo wr s Y1 (X2.swp x) k W) => (show LpS w s Y k (.slice (some ⟨g, 0, none⟩) n c) js ((js.take (j + 1)).foldl Xs.swp X) W from by rw [hsn]; exact LpS.turn HY.out hT))
    have hi0' : (0 : Int) ≤ (j : Int) := by omega
    have hi1 : (j : Int) < (n : Int) := by omega
    have HI := Lib.hid (isof_c S1 hi6 0)
    by_cases hc : makF X2.M x = some 0
    · have hsw : X2.swp x = X2.destroy x := by unfold Xs.swp; rw [if_pos hc]
      rw [decide_eq_true hc] at HI
      have HDE := Lib.hid (sdestroy_c S1 hV2 hi6)
      rw [hsw] at HT
      clear hx hX2 hsn hV2 S1 U1 N1 hcell hc hsw
      go_wp2_with (first
       | (go_at_call 79; ((with_reducible refine (HI.out).mono ?_); rintro e w2 ⟨rfl, rfl⟩))
       | (go_at_call 80; ((with_reducible refine (HDE.out).mono ?_); rintro e w3 ⟨rfl, hT3⟩; have HT3 := Lib.hid hT3; clear hT3)))
      go_roundw
      case rel => exact ⟨j + 1, by omega, by go_num, HT.out _ HT3.out⟩
      case measure => simp [intOf]; omega
    · have hsw : X2.swp x = X2 := by unfold Xs.swp; rw [if_neg hc]
      rw [decide_eq_false hc] at HI
      rw [hsw] at HT
      have HS := Lib.hid S1
      clear hx hX2 hsn hV2 S1 U1 N1 hcell hc hsw
      go_wp2_with (go_at_call 79; ((with_reducible refine (HI.out).mono ?_); rintro e w2 ⟨rfl, rfl⟩))
      go_roundw
      case rel => exact ⟨j + 1, by omega, by go_num, HT.out _ (SrvTo.same HS.out (Below.refl _ _))⟩
      case measure => simp [intOf]; omega
  · obtain rfl : j = n := by omega
    obtain ⟨Y1, S1, U1, -⟩ := hD
    rw [HN.out, List.take_length] at S1
    have HS := Lib.hid (And.intro S1 U1)
    clear S1 U1
    have hjj : ¬ (j : Int) < (j : Int) := by omega
    go_wp2_with fail
    go_end0
    exact ⟨rfl, Y1, by rw [HREL.out]; exact HS.out.1, HS.out.2⟩
end
def Xs.stopC (X : Xs) : Xs := ((({ X with G := false, E := [] } : Xs).release).sweep).look
theorem unsav_mem {M : List Md} {m : Md} (h : m ∈ unsav M) : ∃ m0 ∈ M, m = ⟨m0.win, m0.own, false⟩ := by
 unfold unsav at h
 obtain ⟨m0, h0, rfl⟩ := List.mem_map.1 h
 exact ⟨m0, h0, rfl⟩
theorem inM_unsav (M : List Md) (i : Int) : inM (unsav M) i ↔ inM M i := by
 unfold inM
 constructor
 · rintro ⟨m, hm, rfl⟩
   obtain ⟨m0, h0, rfl⟩ := unsav_mem hm
   exact ⟨m0, h0, rfl⟩
 · rintro ⟨m, hm, rfl⟩
   exact ⟨_, List.mem_map.2 ⟨m, hm, rfl⟩, rfl⟩
theorem V0.unsav {X : Xs} {k : Nat} (h : V0 X k) : V0 { X with M := unsav X.M } k := by
 refine ⟨h.s, ?_, fun i => (h.same i).trans (inM_unsav X.M i).symm, fun m hm => ?_, h.ev, h.h, h.hl, h.f64⟩
 · unfold Proofs.YtnhchpiafchdgaaGreat.unsav
   rw [List.pairwise_map]
   exact h.up
 · obtain ⟨m0, h0, rfl⟩ := unsav_mem hm
   obtain ⟨o1, o2, -⟩ := h.own m0 h0
   exact ⟨o1, o2, fun e => by cases e⟩
theorem V0.release {X : Xs} {k : Nat} (h : V0 X k) : V0 X.release k := by
 have h1 := V0.puts (js := savedL X.M) h fun x hx => h.saved_i64 hx
 have h2 := h1.unsav
 rw [(putF_parts (savedL X.M) X).2.2.1] at h2
 exact h2
theorem V0.sweep {X : Xs} {k : Nat} (h : V0 X k) : V0 X.sweep k := V0.swps h fun _ hx => h.wins_i64 hx
theorem V0.off {X : Xs} {k : Nat} (h : V0 X k) : V0 { X with G := false, E := [] } k := ⟨h.s, h.up, h.same, h.own, by simp, h.h, h.hl, h.f64⟩
theorem V0.stopC {X : Xs} {k : Nat} (h : V0 X k) : V X.stopC k := h.off.release.sweep.look
section
variable {w w' wr : World} {s : Nat} {Y Y1 : Yl} {X X' : Xs} {k m : Nat}
set_option maxRecDepth 100000 in
set_option maxHeartbeats 4000000 in
theorem stop_c (h : Srv w s Y X k) (hV : V0 X k) : Calls Tryz.prog 31 #[srvP s] w fun ex w' => ex = .returned (.int .i64 (if X.G = true then 0 else 8)) ∧ SrvTo w s Y (if X.G = true then X.stopC else X) k w' := by
 obtain ⟨⟨b0, b1, b2, b3, b4, b5, b6⟩, ⟨z0, z1, z2, z3, z4, z5, z6⟩⟩ := h.blk.c7
 have H := Lib.hid (windows_c h)
 cases hG : X.G with
 | false =>
  rw [hG] at b6
  have HQ := Lib.hid (show SrvTo w s Y X k w from SrvTo.same h (Below.refl _ _))
  clear h hG hV
  go_enter Tryz.func31, Tryz.ntmps31
  go_wp2_with (go_at_call 43; ((with_reducible refine (H.out).mono ?_); rintro e w' ⟨rfl, rfl⟩))
  go_ret
  exact ⟨rfl, HQ.out⟩
 | true =>
  rw [hG] at b6
  have HOFF := Lib.hid (show SrvTo w s Y { X with G := false, E := [] } k ((w.setCell ⟨s, 6, none⟩ (.bool false)).setCell ⟨s, 4, none⟩ (.slice none 0 0)) from by
   obtain ⟨Y1, h1, h2⟩ := h.managed false
   have h3 := h1.told (Below.refl _ _) (World.grownBy.refl _ _) (OwK.nil _ 0) (fun r hr => by cases hr)
   exact SrvTo.trans h2 h3)
  have hV1 := hV.off
  obtain ⟨X1, hX1⟩ : ∃ X1 : Xs, { X with G := false, E := [] } = X1 := ⟨_, rfl⟩
  rw [hX1] at HOFF hV1
  have hst : X.stopC = (X1.release.sweep).look := by unfold Xs.stopC; rw [hX1]
  show Calls _ _ _ _ fun ex w' => ex = .returned (.int .i64 0) ∧ SrvTo w s Y X.stopC k w'
  rw [hst]
  have hV2 := hV1.release
  have hV3 := hV2.sweep
  have HV1 := Lib.hid hV1
  have HV2 := Lib.hid hV2
  have HV3 := Lib.hid hV3
  obtain ⟨X2, hX2⟩ : ∃ X2, X1.release = X2 := ⟨_, rfl⟩
  have HR := Lib.hid (fun (W : World) (Y1 : Yl) (hS : Srv W s Y1 X1 k) => release_c hS HV1.out)
  rw [hX2] at HR HV2 HV3 ⊢
  have HSW := Lib.hid (fun (W : World) (Y1 : Yl) (hS : Srv W s Y1 X2 k) => sweep_c hS HV2.out)
  obtain ⟨X3, hX3⟩ : ∃ X3, X2.sweep = X3 := ⟨_, rfl⟩
  rw [hX3] at HSW HV3 ⊢
  have HKE := Lib.hid (fun (W : World) (Y1 : Yl) (hS : Srv W s Y1 X3 k) => keep_c hS HV3.out.s HV3.out.f64)
  obtain ⟨X4, hX4⟩ : ∃ X4, X3.look = X4 := ⟨_, rfl⟩
  rw [hX4] at HKE ⊢
  clear h hG hV hX1 hX2 hX3 hX4 hst hV1 hV2 hV3
  go_enter Tryz.func31, Tryz.ntmps31
  go_upto_region 7 with (go_at_call 43; ((with_reducible refine (H.out).mono ?_); rintro e w' ⟨rfl, rfl⟩))
  obtain ⟨Y1, S1, U1⟩ := HOFF.out
  generalize (w.setCell ⟨s, 6, none⟩ (.bool false)).setCell ⟨s, 4, none⟩ (.slice none 0 0) = w1 at *
  have HS1 := Lib.hid (And.intro S1 U1)
  clear S1 U1 HOFF b0 b1 b2 b3 b4 b5 b6 z0 z1 z2 z3 z4 z5 z6
  go_wp2_with (first
   | (go_at_call 52; ((with_reducible refine (HR.out _ _ HS1.out.1).mono ?_); rintro e w2 ⟨rfl, Y2, S2, U2⟩; have HS2 := Lib.hid (And.intro S2 (HS1.out.2.trans U2)); clear S2 U2))
   | (go_at_call 53; ((with_reducible refine (HSW.out _ _ HS2.out.1).mono ?_); rintro e w3 ⟨rfl, Y3, S3, U3⟩; have HS3 := Lib.hid (And.intro S3 (HS2.out.2.trans U3)); clear S3 U3))
   | (go_at_call 47; ((with_reducible refine (HKE.out _ _ HS3.out.1).mono ?_); rintro e w4 ⟨rfl, hT4⟩; have HT4 := Lib.hid (SrvTo.trans HS3.out.2 hT4); clear hT4)))
  go_ret
  exact ⟨rfl, HT4.out⟩
end
end Go.Proofs.YtnhchpiafchdgaaGreat
namespace Go.Proofs.YtnhchpiafchdgaaGreat
open Go.RowKit Go.Shelf Go.Maps
theorem put_M (X : Xs) (M' : List Md) (i : Int) : ({ X with M := M' } : Xs).put i = { X.put i with M := M' } := rfl
theorem putF_M : ∀ (js : List Int) (X : Xs) (M' : List Md), js.foldl Xs.put ({ X with M := M' } : Xs) = { js.foldl Xs.put X with M := M' }
 | [], _, _ => rfl
 | i :: js, X, M' => by
  rw [List.foldl_cons, List.foldl_cons, put_M, putF_M js (X.put i) M']
def offB (K : List Md) (M : List Md) : List Md := K.foldl (fun M m => if m.sav = true then setSav m.win false M else M) M
theorem backF : ∀ (K : List Md) (X : Xs), K.foldl Xs.back X = { (savedL K).foldl Xs.put X with M := offB K X.M }
 | [], _ => rfl
 | m :: K, X => by
  rw [List.foldl_cons]
  by_cases hs : m.sav = true
  · have h1 : X.back m = { X.put m.win with M := setSav m.win false X.M } := by unfold Xs.back Xs.put; rw [if_pos hs]
    have h2 : savedL (m :: K) = m.win :: savedL K := by unfold savedL; rw [List.filter_cons, if_pos hs]; rfl
    have h3 : offB (m :: K) X.M = offB K (setSav m.win false X.M) := by unfold offB; rw [List.foldl_cons, if_pos hs]
    rw [h1, backF K, h2, h3, putF_M]
    rfl
  · have h1 : X.back m = X := by unfold Xs.back; rw [if_neg hs]
    have h2 : savedL (m :: K) = savedL K := by unfold savedL; rw [List.filter_cons, if_neg hs]
    have h3 : offB (m :: K) X.M = offB K X.M := by unfold offB; rw [List.foldl_cons, if_neg hs]
    rw [h1, backF K, h2, h3]
def offM (K : List Md) (m : Md) : Md := if (K.any fun q => q.sav && decide (q.win = m.win)) = true then ⟨m.win, m.own, false⟩ else m
theorem offB_map : ∀ (K : List Md) (M : List Md), offB K M = M.map (offM K)
 | [], M => by
  unfold offB offM
  simp
 | q :: K, M => by
  have h0 : offB (q :: K) M = offB K (if q.sav = true then setSav q.win false M else M) := rfl
  rw [h0, offB_map K]
  by_cases hs : q.sav = true
  · rw [if_pos hs]
    unfold setSav
    rw [List.map_map]
    congr 1
    funext m
    unfold offM
    simp only [Function.comp, List.any_cons, hs, Bool.true_and]
    by_cases hw : m.win = q.win
    · simp only [if_pos hw, show decide (q.win = m.win) = true from decide_eq_true hw.symm, Bool.true_or, if_true]
      split <;> rfl
    · simp only [if_neg hw, show decide (q.win = m.win) = false from decide_eq_false fun e => hw e.symm, Bool.false_or]
  · rw [if_neg hs]
    congr 1
    funext m
    unfold offM
    rw [List.any_cons, show q.sav = false by simpa using hs, Bool.false_and, Bool.false_or]
theorem offB_self (M : List Md) : offB M M = unsav M := by
 rw [offB_map]
 unfold unsav
 refine List.map_congr_left fun m hm => ?_
 unfold offM
 split
 · rfl
 · next h =>
   have hs : m.sav = false := by
    cases hs : m.sav with
    | false => rfl
    | true => exact absurd (List.any_eq_true.2 ⟨m, hm, by rw [hs]; simp⟩) h
   rw [← hs]
theorem back_release (X : Xs) : X.M.foldl Xs.back X = X.release := by
 rw [backF, offB_self]
 rfl
def Sub (M0 M : List Md) : Prop := ∀ q ∈ M, ∃ m ∈ M0, m.win = q.win ∧ m.own = q.own
theorem Sub.swp {M0 : List Md} {X : Xs} (hs : Sub M0 X.M) (i : Int) : Sub M0 (X.swp i).M := by
 unfold Xs.swp
 split
 · unfold Xs.destroy
   split
   · exact hs
   · intro q hq
     exact hs q (((fold_parts _ _).2.2.2.2.1 q).1 hq).1
 · exact hs
theorem end_swp {M0 : List Md} {X : Xs} {k : Nat} (h : V0 X k) (hu : M0.Pairwise (fun a b => a.win < b.win)) (hs : Sub M0 X.M) {m : Md} (hm : m ∈ M0) (h0 : m.win ≠ 0) : X.end m = X.swp m.win := by
 unfold Xs.end Xs.swp
 have hown : ∀ q ∈ X.M, q.win = m.win → q.own = m.own := fun q hq e => by
   obtain ⟨m1, h1, h2, h3⟩ := hs q hq
   have h4 := mfind_in hu h1
   have h5 := mfind_in hu hm
   rw [h2, e, h5] at h4
   injection h4 with h4
   rw [← h3, ← h4]
 by_cases hc : makF X.M m.win = some 0
 · rw [if_pos hc]
   unfold makF at hc
   obtain ⟨q, hq, hq0⟩ := Option.map_eq_some_iff.1 hc
   obtain ⟨hq1, hq2⟩ := mfind_mem hq
   rw [if_pos ⟨by rw [← hown q hq1 hq2]; exact hq0, (there_iff X.R X.L m.win).2 (.inr ((h.same m.win).2 ⟨q, hq1, hq2⟩))⟩]
 · rw [if_neg hc, if_neg]
   rintro ⟨h1, h2⟩
   rcases (there_iff X.R X.L m.win).1 h2 with h3 | h3
   · exact h0 h3
   · obtain ⟨q, hq, hq1, hq2⟩ := mfind_some ((h.same m.win).1 h3)
     apply hc
     unfold makF
     rw [hq, Option.map_some, hown q hq1 hq2, h1]
theorem endF {M0 : List Md} {k : Nat} (hu : M0.Pairwise (fun a b => a.win < b.win)) : ∀ (K : List Md) (X : Xs), V0 X k → Sub M0 X.M → (∀ m ∈ K, m ∈ M0 ∧ m.win ≠ 0 ∧ I64 m.win) → K.foldl Xs.end X = (winsL K).foldl Xs.swp X
 | [], _, _, _, _ => rfl
 | m :: K, X, h, hs, hK => by
  obtain ⟨h1, h2, h3⟩ := hK m (by simp)
  show K.foldl Xs.end (X.end m) = (winsL K).foldl Xs.swp (X.swp m.win)
  rw [end_swp h hu hs h1 h2]
  exact endF hu K _ (h.swp h3) (Sub.swp hs m.win) fun x hx => hK x (by simp [hx])
theorem stop_same {X : Xs} {k : Nat} (h : V0 X k) (hG : X.G = true) : X.stop = (0, X.stopC) := by
 unfold Xs.stop Xs.stopC
 rw [if_neg (by rw [hG]; simp)]
 have ho := h.off
 have h1 : X.M.foldl Xs.back { X with G := false, E := [] } = ({ X with G := false, E := [] } : Xs).release := back_release { X with G := false, E := [] }
 rw [h1]
 have hr := ho.release
 have hM : (({ X with G := false, E := [] } : Xs).release).M = unsav X.M := rfl
 have hw : winsL (unsav X.M) = winsL X.M := by unfold winsL unsav; rw [List.map_map]; rfl
 have h2 : X.M.foldl Xs.end (({ X with G := false, E := [] } : Xs).release) = (({ X with G := false, E := [] } : Xs).release).sweep := by
  rw [endF h.up X.M _ hr (fun q hq => by
   rw [hM] at hq
   obtain ⟨m0, h0, rfl⟩ := unsav_mem hq
   exact ⟨m0, h0, rfl, rfl⟩) (fun m hm => ⟨hm, fun e => in_no0 h ⟨m, hm, e⟩, in_i64 h ⟨m, hm, rfl⟩⟩)]
  unfold Xs.sweep
  rw [hM, hw]
 rw [h2]
end Go.Proofs.YtnhchpiafchdgaaGreat
namespace Go.Proofs.YtnhchpiafchdgaaGreat
open Go.RowKit Go.Shelf Go.Maps
structure Zl where
 lv : Value
 pv : Value
 mv : Value
 ev : Value
def encM (m : Md) : List Value := [.int .i64 m.win, .int .i64 m.own, .bool m.sav]
theorem encM_len (m : Md) : (encM m).length = 3 := rfl
abbrev refS (Z : Zl) (X : Xs) : Array Value := #[.int .i64 X.R.x, .int .i64 X.R.y, .int .i64 X.R.w, .int .i64 X.R.h, .int .i64 X.R.last, Z.lv, Z.pv, Z.mv, .int .i64 X.F, .bool X.G, Z.ev]
def Zl.foot (Z : Zl) (r : Nat) : Nat → Prop := fun b => b = r ∨ Z.ev.ownBlock = some b
def Zl.all (Z : Zl) (r : Nat) : Nat → Prop := fun b => b = r ∨ Z.lv.ownBlock = some b ∨ Z.pv.ownBlock = some b ∨ Z.mv.ownBlock = some b ∨ Z.ev.ownBlock = some b
structure Ref (w : World) (r : Nat) (Z : Zl) (X : Xs) : Prop where
 blk : Blk w r 59 (refS Z X)
 l : RO w Z.lv X.L
 p : Pp.OH w 0 Z.pv X.H
 m : OwK encM 99 3 w 0 Z.mv X.M
 e : OwK encE 71 7 w 0 Z.ev X.E
def RefTo (w : World) (r : Nat) (Z : Zl) (X' : Xs) (w' : World) : Prop := ∃ Z', Ref w' r Z' X' ∧ Turn (Z.foot r) (Z'.foot r) w w'
theorem ok_block {α : Type} {enc : α → List Value} {T : TypeId} {k : Nat} {w : World} {B : Nat} {v : Value} {xs : List α} (h : OwK enc T k w B v xs) {q : Nat} (hq : v.ownBlock = some q) : ∃ cs, Blk w q T cs := by
 obtain ⟨_, h⟩ := h
 rcases h with ⟨rfl, _⟩ | ⟨g, cap, cur, rfl, _, hg, _⟩
 · cases hq
 · obtain rfl : g = q := by simpa [Value.ownBlock] using hq
   exact ⟨_, hg⟩
section
variable {w w' w1 : World} {r : Nat} {Z : Zl} {X : Xs}
theorem Ref.lt (h : Ref w r Z X) {b : Nat} (hb : Z.all r b) : b < w.heap.size := by
 rcases hb with rfl | hb | hb | hb | hb
 · exact h.blk.lt
 · exact (OwK.lt h.l hb).2
 · exact (OwK.lt (enc := Pp.encH) (k := 4) h.p hb).2
 · exact (OwK.lt h.m hb).2
 · exact (OwK.lt h.e hb).2
theorem Ref.kept (h : Ref w r Z X) (hk : ∀ b, Z.all r b → w'.heap[b]? = w.heap[b]?) : Ref w' r Z X :=
 ⟨(hk r (.inl rfl)).trans h.blk, row_kept h.l fun b hb => hk b (.inr (.inl hb)), row_kept (enc := Pp.encH) (k := 4) h.p fun b hb => hk b (.inr (.inr (.inl hb))), row_kept h.m fun b hb => hk b (.inr (.inr (.inr (.inl hb)))), row_kept h.e fun b hb => hk b (.inr (.inr (.inr (.inr hb))))⟩
theorem Ref.next (h : Ref w r Z X) (hb : Below w.heap.size w w') : Ref w' r Z X := h.kept fun b hf => hb.block b (h.lt hf)
theorem RefTo.same (h : Ref w r Z X) (hb : Below w.heap.size w w') : RefTo w r Z X w' := ⟨Z, h.next hb, Turn.of_below hb⟩
theorem RefTo.trans {Z1 : Zl} {X' : Xs} (h : Turn (Z.foot r) (Z1.foot r) w w1) (k : RefTo w1 r Z1 X' w') : RefTo w r Z X' w' := by
 obtain ⟨Z', h1, h2⟩ := k
 exact ⟨Z', h1, h.trans h2⟩
theorem RefTo.after {X' : Xs} (hb : Below w.heap.size w w1) (k : RefTo w1 r Z X' w') : RefTo w r Z X' w' := RefTo.trans (Turn.of_below hb) k
theorem RefTo.then {X' : Xs} (h : RefTo w r Z X' w1) (hb : Below w1.heap.size w1 w') : RefTo w r Z X' w' := by
 obtain ⟨Z', h1, h2⟩ := h
 exact ⟨Z', h1.next hb, h2.then_below hb⟩
theorem Ref.drewN (h : Ref w r Z X) (q : Nat) : Ref (w.drewN q) r Z X := h.kept fun _ _ => rfl
theorem Ref.to (_h : Ref w r Z X) (hB : Below w.heap.size w w1) {Z' : Zl} {X' : Xs} (hb : Blk w' r 59 (refS Z' X')) (hl : RO w' Z'.lv X'.L) (hp : Pp.OH w' 0 Z'.pv X'.H) (hm : OwK encM 99 3 w' 0 Z'.mv X'.M) (he : OwK encE 71 7 w' 0 Z'.ev X'.E)
   (hg : w1.grownBy w' (some r)) (n4 : ∀ b, Z'.ev.ownBlock = some b → Z.ev.ownBlock = some b ∨ w.heap.size ≤ b) : RefTo w r Z X' w' := by
 refine ⟨Z', ⟨hb, hl, hp, hm, he⟩, ⟨hg.os.trans hB.os, hg.tape.trans hB.tape, hg.output.trans hB.output, Nat.le_trans hB.size hg.size, fun i hi hn => (hg.block i (Nat.lt_of_lt_of_le hi hB.size) (fun e => hn (.inl (by injection e)))).trans (hB.block i hi), fun b hf => ?_⟩⟩
 rcases hf with rfl | hf
 · exact .inl (.inl rfl)
 · exact (n4 b hf).imp_left fun e => .inr e
theorem Ref.ne_row {v : Value} {α : Type} {enc : α → List Value} {T : TypeId} {k : Nat} {xs : List α} (h : Ref w r Z X) (ho : OwK enc T k w 0 v xs) (hT : T ≠ 59) {b : Nat} (hb : v.ownBlock = some b) : b ≠ r := by
 obtain ⟨cs, hc⟩ := ok_block ho hb
 exact hc.ne_ h.blk hT
theorem grown_set (w : World) (r j : Nat) (u : Value) : w.grownBy (w.setCell ⟨r, j, none⟩ u) (some r) := ⟨rfl, rfl, rfl, by simp [World.setCell], fun i _ hi => Below.heap_setCell w _ u i (fun e => hi (by rw [show i = r from e]))⟩
theorem row_set {v : Value} {α : Type} {enc : α → List Value} {T : TypeId} {k : Nat} {xs : List α} (ho : OwK enc T k w 0 v xs) {j : Nat} (hn : ∀ b, v.ownBlock = some b → b ≠ r) (u : Value) : OwK enc T k (w.setCell ⟨r, j, none⟩ u) 0 v xs :=
 row_kept ho fun b hb => Below.heap_setCell w _ u b (hn b hb)
theorem Ref.cell (h : Ref w r Z X) (j : Nat) (u : Value) {X' : Xs} (hb : (refS Z X).setIfInBounds j u = refS Z X') (a1 : X'.L = X.L) (a2 : X'.H = X.H) (a3 : X'.M = X.M) (a4 : X'.E = X.E) : RefTo w r Z X' (w.setCell ⟨r, j, none⟩ u) := by
 obtain ⟨R', L', H', M', F', G', E'⟩ := X'
 dsimp only at a1 a2 a3 a4
 subst a1 a2 a3 a4
 refine h.to (Below.refl _ w) (hb ▸ h.blk.set_ j u) (row_set h.l (fun b hb => h.ne_row h.l (by decide) hb) u) (row_set (enc := Pp.encH) (k := 4) h.p (fun b hb => h.ne_row (enc := Pp.encH) (k := 4) h.p (by decide) hb) u) (row_set h.m (fun b hb => h.ne_row h.m (by decide) hb) u) (row_set h.e (fun b hb => h.ne_row h.e (by decide) hb) u) (grown_set w r j u) (fun _ e => .inl e)
theorem Ref.putP (h : Ref w r Z X) (hb : Below w.heap.size w w1) {v' : Value} {H' : List Pp.Hd} (ho : Pp.OH w1 0 v' H') : RefTo w r Z { X with H := H' } (w1.setCell ⟨r, 6, none⟩ v') := by
 have h1 := h.next hb
 have ne : ∀ b, v'.ownBlock = some b → b ≠ r := fun b hb => h1.ne_row (enc := Pp.encH) (k := 4) ho (by decide) hb
 exact h.to hb (Z' := { Z with pv := v' }) (X' := { X with H := H' }) (h1.blk.set_ 6 v') (row_set h1.l (fun b hb => h1.ne_row h1.l (by decide) hb) _) (row_set (enc := Pp.encH) (k := 4) ho ne _) (row_set h1.m (fun b hb => h1.ne_row h1.m (by decide) hb) _) (row_set h1.e (fun b hb => h1.ne_row h1.e (by decide) hb) _) (grown_set w1 r 6 v') (fun _ e => .inl e)
theorem Ref.putM (h : Ref w r Z X) (hb : Below w.heap.size w w1) {v' : Value} {M' : List Md} (ho : OwK encM 99 3 w1 0 v' M') : RefTo w r Z { X with M := M' } (w1.setCell ⟨r, 7, none⟩ v') := by
 have h1 := h.next hb
 have ne : ∀ b, v'.ownBlock = some b → b ≠ r := fun b hb => h1.ne_row ho (by decide) hb
 exact h.to hb (Z' := { Z with mv := v' }) (X' := { X with M := M' }) (h1.blk.set_ 7 v') (row_set h1.l (fun b hb => h1.ne_row h1.l (by decide) hb) _) (row_set (enc := Pp.encH) (k := 4) h1.p (fun b hb => h1.ne_row (enc := Pp.encH) (k := 4) h1.p (by decide) hb) _) (row_set ho ne _) (row_set h1.e (fun b hb => h1.ne_row h1.e (by decide) hb) _) (grown_set w1 r 7 v') (fun _ e => .inl e)
theorem Ref.putE (h : Ref w r Z X) (hb : Below w.heap.size w w1) {v' : Value} {E' : List Ev} (ho : OwK encE 71 7 w1 0 v' E') (hv : ∀ b, v'.ownBlock = some b → Z.ev.ownBlock = some b ∨ w.heap.size ≤ b) : RefTo w r Z { X with E := E' } (w1.setCell ⟨r, 10, none⟩ v') := by
 have h1 := h.next hb
 have ne : ∀ b, v'.ownBlock = some b → b ≠ r := fun b hb => h1.ne_row ho (by decide) hb
 exact h.to hb (Z' := { Z with ev := v' }) (X' := { X with E := E' }) (h1.blk.set_ 10 v') (row_set h1.l (fun b hb => h1.ne_row h1.l (by decide) hb) _) (row_set (enc := Pp.encH) (k := 4) h1.p (fun b hb => h1.ne_row (enc := Pp.encH) (k := 4) h1.p (by decide) hb) _) (row_set h1.m (fun b hb => h1.ne_row h1.m (by decide) hb) _) (row_set ho ne _) (grown_set w1 r 10 v') hv
theorem grown6r {r : Nat} (w : World) (v0 v1 v2 v3 v4 v5 : Value) : w.grownBy ((((((w.setCell ⟨r, 0, none⟩ v0).setCell ⟨r, 1, none⟩ v1).setCell ⟨r, 2, none⟩ v2).setCell ⟨r, 3, none⟩ v3).setCell ⟨r, 4, none⟩ v4).setCell ⟨r, 5, none⟩ v5) (some r) :=
 grown6 (World.grownBy.refl w _) _ _ _ _ _ _
theorem Ref.putT (h : Ref w r Z X) (hb : Below w.heap.size w w1) {v' : Value} {R' : RT} {L' : List Win} (ho : RO w1 v' L') :
  RefTo w r Z { X with R := R', L := L' } ((((((w1.setCell ⟨r, 0, none⟩ (.int .i64 R'.x)).setCell ⟨r, 1, none⟩ (.int .i64 R'.y)).setCell ⟨r, 2, none⟩ (.int .i64 R'.w)).setCell ⟨r, 3, none⟩ (.int .i64 R'.h)).setCell ⟨r, 4, none⟩ (.int .i64 R'.last)).setCell ⟨r, 5, none⟩ v') := by
 have h1 := h.next hb
 have ne : ∀ b, v'.ownBlock = some b → b ≠ r := fun b hb => h1.ne_row ho (by decide) hb
 have hk : ∀ b, b ≠ r → ((((((w1.setCell ⟨r, 0, none⟩ (.int .i64 R'.x)).setCell ⟨r, 1, none⟩ (.int .i64 R'.y)).setCell ⟨r, 2, none⟩ (.int .i64 R'.w)).setCell ⟨r, 3, none⟩ (.int .i64 R'.h)).setCell ⟨r, 4, none⟩ (.int .i64 R'.last)).setCell ⟨r, 5, none⟩ v').heap[b]? = w1.heap[b]? := fun b hb => heap6 hb _ _ _ _ _ _
 have hblk := (((((h1.blk.set_ 0 (.int .i64 R'.x)).set_ 1 (.int .i64 R'.y)).set_ 2 (.int .i64 R'.w)).set_ 3 (.int .i64 R'.h)).set_ 4 (.int .i64 R'.last)).set_ 5 v'
 exact h.to hb (Z' := { Z with lv := v' }) (X' := { X with R := R', L := L' }) hblk (row_kept ho fun b hb => hk b (ne b hb)) (row_kept (enc := Pp.encH) (k := 4) h1.p fun b hb => hk b (h1.ne_row (enc := Pp.encH) (k := 4) h1.p (by decide) hb)) (row_kept h1.m fun b hb => hk b (h1.ne_row h1.m (by decide) hb)) (row_kept h1.e fun b hb => hk b (h1.ne_row h1.e (by decide) hb)) (grown6r w1 _ _ _ _ _ _) (fun _ e => .inl e)
end
end Go.Proofs.YtnhchpiafchdgaaGreat
