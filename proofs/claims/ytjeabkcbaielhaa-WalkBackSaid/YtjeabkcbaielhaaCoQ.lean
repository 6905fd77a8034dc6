/- The ways to clients' leaves: cons.find, its closure. -/
import Derived.Test.YtjeabkcbaielhaaCoP
namespace Go.Proofs.Ytjeabkcbaielhaa.Co
open Go.RowKit Go.Shelf
abbrev Ways := List (Option (List Nat)) × Int
/-- The first k clients held against a leaf's. -/
def hitN (cs : List Int) (c : Int) (way : List Nat) : Nat → Ways → Ways
  | 0, s => s
  | n + 1, s => if cs[n]? = some c then ((hitN cs c way n s).1.set n (some way), wrap64 ((hitN cs c way n s).2 - 1)) else hitN cs c way n s
def fnd (cs : List Int) (s : Ways) (t : Con) (way : List Nat) : Ways × Bool :=
  if t.a.k ≠ 0 then (s, false) else (hitN cs t.a.c way cs.length s, decide ((hitN cs t.a.c way cs.length s).2 = 0))
/-- A way's slice, or none. -/
def WayO (w : World) (Y : Nat → Prop) : Option (List Nat) → Value → Prop
  | none, v => v = .slice none 0 0
  | some u, v => WV w Y u v
/-- The closure's memory: the clients, the ways, how many are missing. -/
structure Jf (cs : List Int) (cv kb wv rb mv : Nat) (s : Ways) (F : Nat → Prop) (w : World) : Prop where
  foot : ∀ b, F b ↔ b = cv ∨ b = kb ∨ b = wv ∨ b = rb ∨ b = mv
  ne : rb ≠ cv ∧ rb ≠ kb ∧ rb ≠ wv ∧ rb ≠ mv ∧ mv ≠ cv ∧ mv ≠ kb ∧ mv ≠ wv
  cvar : Blk w cv 34 #[.slice (some ⟨kb, 0, none⟩) cs.length cs.length]
  ints : Blk w kb 3 (cs.map (Value.int .i64)).toArray
  wvar : Blk w wv 65 #[.slice (some ⟨rb, 0, none⟩) cs.length cs.length]
  mvar : Blk w mv 3 #[.int .i64 s.2]
  len : s.1.length = cs.length
  wide : I64 s.2
  row : ∃ vs : List Value, Blk w rb 34 vs.toArray ∧ vs.length = cs.length ∧ ∀ (i : Nat) (o : Option (List Nat)), s.1[i]? = some o → ∃ v, vs[i]? = some v ∧ WayO w (fun b => ¬ F b) o v
section
variable {w w' : World} {F : Nat → Prop} {cs : List Int} {cv kb wv rb mv : Nat} {s : Ways}
theorem WayO.same {Y Y' : Nat → Prop} {o : Option (List Nat)} {v : Value} (h : WayO w Y o v) (hs : w.heap.size ≤ w'.heap.size) (hb : ∀ b, Y b → b < w.heap.size → (∃ cs, w.heap[b]? = some (.cells cs 3 (0, 0))) → w'.heap[b]? = w.heap[b]? ∧ Y' b) : WayO w' Y' o v := by
  cases o with
  | none => exact h
  | some u =>
    obtain ⟨p, c, h1, h2, h2', h3, h4, h5⟩ := h
    refine ⟨p, c, h1, h2, h2', h3, fun a ha => ?_, fun j i hi => ?_⟩
    · obtain ⟨b, e, h6, h7, cs, h8⟩ := h4 a ha
      exact ⟨b, e, Nat.lt_of_lt_of_le h6 hs, (hb b h7 h6 ⟨cs, h8⟩).2, cs, (hb b h7 h6 ⟨cs, h8⟩).1.trans h8⟩
    · obtain ⟨b, e, h6⟩ := h5 j i hi
      obtain ⟨b', e', h7, h8, cs, h9⟩ := h4 _ e
      injection e' with e'
      subst e'
      exact ⟨b, e, (cell_same (hb b h8 h7 ⟨cs, h9⟩).1 j).trans h6⟩
theorem Jf.next (h : Jf cs cv kb wv rb mv s F w) (hb : Below w.heap.size w w') : Jf cs cv kb wv rb mv s F w' := by
  obtain ⟨vs, h1, h2, h3⟩ := h.row
  exact ⟨h.foot, h.ne, h.cvar.next hb, h.ints.next hb, h.wvar.next hb, h.mvar.next hb, h.len, h.wide, vs, h1.next hb, h2, fun i o ho => by
    obtain ⟨v, h4, h5⟩ := h3 i o ho
    exact ⟨v, h4, h5.same hb.size fun b hy hl _ => ⟨hb.block b hl, hy⟩⟩⟩
theorem jok_f (cs : List Int) (cv kb wv rb mv : Nat) : Jok (Jf cs cv kb wv rb mv) where
  next := fun s F w w' h hb => h.next hb
  lt := fun s F w h b hf => by
    obtain ⟨vs, h1, _⟩ := h.row
    rcases (h.foot b).1 hf with e | e | e | e | e
    · exact e ▸ h.cvar.lt
    · exact e ▸ h.ints.lt
    · exact e ▸ h.wvar.lt
    · exact e ▸ h1.lt
    · exact e ▸ h.mvar.lt
  far := fun s F w r u v h hr hq => by
    have hf := fun b => (h.foot b).2
    have n1 : cv ≠ r := fun e => hr (hf r (.inl e.symm))
    have n2 : kb ≠ r := fun e => hr (hf r (.inr (.inl e.symm)))
    have n3 : wv ≠ r := fun e => hr (hf r (.inr (.inr (.inl e.symm))))
    have n4 : rb ≠ r := fun e => hr (hf r (.inr (.inr (.inr (.inl e.symm)))))
    have n5 : mv ≠ r := fun e => hr (hf r (.inr (.inr (.inr (.inr e.symm)))))
    obtain ⟨vs, h1, h2, h3⟩ := h.row
    refine ⟨h.foot, h.ne, h.cvar.far n1 v, h.ints.far n2 v, h.wvar.far n3 v, h.mvar.far n5 v, h.len, h.wide, vs, h1.far n4 v, h2, fun i o ho => ?_⟩
    obtain ⟨x, h4, h5⟩ := h3 i o ho
    refine ⟨x, h4, h5.same (by simp [World.setCell]) fun b hy hl ⟨cs', hcs⟩ => ⟨Below.heap_setCell w ⟨r, 0, none⟩ v b ?_, hy⟩⟩
    rintro rfl
    unfold Blk at hq
    rw [hcs] at hq
    cases hq
end
theorem Jf.hit {w : World} {F : Nat → Prop} {cs : List Int} {cv kb wv rb mv : Nat} {s : Ways} {way : List Nat} {v : Value} {k : Nat} {m : Int} (h : Jf cs cv kb wv rb mv s F w) (hv : WV w (fun b => ¬ F b) way v) (hk : k < cs.length) (hm : I64 m) :
    Jf cs cv kb wv rb mv (s.1.set k (some way), m) F ((w.setCell ⟨rb, k, none⟩ v).setCell ⟨mv, 0, none⟩ (.int .i64 m)) ∧ Turn F F w ((w.setCell ⟨rb, k, none⟩ v).setCell ⟨mv, 0, none⟩ (.int .i64 m)) := by
  obtain ⟨n1, n2, n3, n4, n5, n6, n7⟩ := h.ne
  obtain ⟨vs, h1, h2, h3⟩ := h.row
  have hrb : F rb := (h.foot rb).2 (.inr (.inr (.inr (.inl rfl))))
  have hmv : F mv := (h.foot mv).2 (.inr (.inr (.inr (.inr rfl))))
  have hfar : ∀ b, ¬ F b → ((w.setCell ⟨rb, k, none⟩ v).setCell ⟨mv, 0, none⟩ (.int .i64 m)).heap[b]? = w.heap[b]? := fun b hb => by
    rw [Below.heap_setCell _ ⟨mv, 0, none⟩ _ b (fun e => hb (e ▸ hmv)), Below.heap_setCell _ ⟨rb, k, none⟩ _ b (fun e => hb (e ▸ hrb))]
  have hsz : ((w.setCell ⟨rb, k, none⟩ v).setCell ⟨mv, 0, none⟩ (.int .i64 m)).heap.size = w.heap.size := by simp [World.setCell]
  refine ⟨⟨h.foot, h.ne, (h.cvar.far (p := ⟨rb, k, none⟩) (Ne.symm n1) v).far (p := ⟨mv, 0, none⟩) (Ne.symm n5) _, (h.ints.far (p := ⟨rb, k, none⟩) (Ne.symm n2) v).far (p := ⟨mv, 0, none⟩) (Ne.symm n6) _,
    (h.wvar.far (p := ⟨rb, k, none⟩) (Ne.symm n3) v).far (p := ⟨mv, 0, none⟩) (Ne.symm n7) _, (h.mvar.far (p := ⟨rb, k, none⟩) (Ne.symm n4) v).set_ 0 _, by rw [List.length_set]; exact h.len, hm,
    vs.set k v, ?_, by rw [List.length_set]; exact h2, fun i o ho => ?_⟩, ⟨rfl, rfl, rfl, Nat.le_of_eq hsz.symm, fun i _ hn => hfar i hn, fun i hi => .inl hi⟩⟩
  · have := (h1.set_ k v).far (p := ⟨mv, 0, none⟩) n4 (.int .i64 m)
    rwa [List.setIfInBounds_toArray] at this
  · have hW : ∀ (o : Option (List Nat)) (u : Value), WayO w (fun b => ¬ F b) o u → WayO ((w.setCell ⟨rb, k, none⟩ v).setCell ⟨mv, 0, none⟩ (.int .i64 m)) (fun b => ¬ F b) o u :=
      fun o u hu => hu.same (Nat.le_of_eq hsz.symm) fun b hb _ _ => ⟨hfar b hb, hb⟩
    simp only [List.getElem?_set] at ho ⊢
    by_cases hki : k = i
    · subst hki
      rw [if_pos rfl, if_pos (by rw [h.len]; exact hk)] at ho
      have ho := Option.some.inj ho
      subst ho
      exact ⟨v, by rw [if_pos rfl, if_pos (by rw [h2]; exact hk)], hW (some way) v hv⟩
    · rw [if_neg hki] at ho ⊢
      obtain ⟨u, h4, h5⟩ := h3 i o ho
      exact ⟨u, h4, hW o u h5⟩
theorem wrap_wide (z : Int) : I64 (wrap64 z) := by
  unfold I64 wrap64; omega
theorem enters_find : ∀ args w, (callFunc 97 args).run Try.prog w = .ok (.enter 97 args) w := enters_of Try.func97 (by kernel_rfl) rfl
theorem hitN_len (cs : List Int) (c : Int) (way : List Nat) (n : Nat) (s : Ways) : (hitN cs c way n s).1.length = s.1.length := by
  induction n with
  | zero => rfl
  | succ n ih => simp only [hitN]; split <;> simp [ih]
set_option maxHeartbeats 1000000 in
theorem vis_find (Z : Nat → Prop) (cs : List Int) (hcs : cs.length ≤ 8) (cv kb wv rb mv : Nat) :
    Vis Z (fun _ => True) 97 #[.pointer (some ⟨cv, 0, none⟩), .pointer (some ⟨wv, 0, none⟩), .pointer (some ⟨mv, 0, none⟩)] (fnd cs) enoughP (Jf cs cv kb wv rb mv) := by
  intro s F w x sv wvv way hg hs hK hw hZ hWV hlw
  obtain ⟨p, cap, rfl, hl⟩ := hK.slice
  obtain ⟨q, c, rfl⟩ := hWV.slice
  have hb0 := (Below.refl w.heap.size w).alloc (Nat.le_refl _) (.cells #[.int .i64 x.a.k, .int .i64 x.a.w, .int .i64 x.a.c, .int .i64 x.a.s, .slice p x.ks.length cap] 24)
  have hQ := Blk.new w 24 #[.int .i64 x.a.k, .int .i64 x.a.w, .int .i64 x.a.c, .int .i64 x.a.s, .slice p x.ks.length cap]
  have HF := Lib.hid (show fnd cs s x way = (if x.a.k ≠ 0 then (s, false) else (hitN cs x.a.c way cs.length s, decide ((hitN cs x.a.c way cs.length s).2 = 0))) from rfl)
  obtain ⟨r, hr⟩ : ∃ r, r = fnd cs s x way := ⟨_, rfl⟩
  rw [← hr] at HF ⊢
  have HJ0 := Lib.hid (hs.next hb0)
  have HW0 := Lib.hid (hWV.next hb0)
  have HFn : Hid (¬ F w.heap.size) := fun h => Nat.lt_irrefl _ ((jok_f cs cv kb wv rb mv).lt _ _ _ hs _ h)
  clear hr hK hw hZ hl hg hs hWV
  obtain ⟨⟨xk, xw, xc, xs⟩, ks⟩ := x
  simp only [Tr.a_mk, Tr.ks_mk] at HF hb0 hQ HJ0 HW0 ⊢
  obtain ⟨n, hn⟩ : ∃ n, n = ks.length := ⟨_, rfl⟩
  obtain ⟨nw, hnw⟩ : ∃ n, n = way.length := ⟨_, rfl⟩
  obtain ⟨nc, hnc⟩ : ∃ n, n = cs.length := ⟨_, rfl⟩
  rw [← hn] at hb0 hQ HJ0 HW0 ⊢
  rw [← hnw] at HW0 ⊢
  rw [← hnc] at HF hcs
  have HF := Lib.hid (show r = (if xk ≠ 0 then (s, false) else (hitN cs xc way nc s, decide ((hitN cs xc way nc s).2 = 0))) from HF.out)
  have HN := Lib.hid hnc
  have HNW := Lib.hid hnw
  have HB := Lib.hid hb0
  have HQ := Lib.hid hQ
  clear hn hnw hb0 hQ hnc hlw
  show Calls Try.prog 97 #[.agg #[.int .i64 xk, .int .i64 xw, .int .i64 xc, .int .i64 xs, .slice p n cap], .slice q nw c, .pointer (some ⟨cv, 0, none⟩), .pointer (some ⟨wv, 0, none⟩), .pointer (some ⟨mv, 0, none⟩)] w _
  by_cases hk : xk = 0
  · subst hk
    have HF' : Hid (r = (hitN cs xc way nc s, decide ((hitN cs xc way nc s).2 = 0))) := HF
    have j0 := HJ0.out.cvar.at_ (i := 0) rfl
    rw [← HN.out] at j0
    clear HF
    go_enter Try.func97, Try.ntmps97
    go_wp2_with fail
    clear j0
    go_loopw [14] (fun z wr => ∃ k : Nat, k ≤ nc ∧ z = .int .i64 k ∧ Jf cs cv kb wv rb mv (hitN cs xc way k s) F wr ∧ Turn F F (w.alloc (.cells #[.int .i64 0, .int .i64 xw, .int .i64 xc, .int .i64 xs, .slice p n cap] 24)) wr) (fun z _ => nc - (intOf z).toNat)
    case atStart => exact ⟨0, Nat.zero_le _, rfl, HJ0.out, Turn.of_below (Below.refl _ _)⟩
    case round =>
      obtain ⟨k, hk, rfl, hj, ht⟩ := hrel
      have HJ := Lib.hid (show Jf cs cv kb wv rb mv (hitN cs xc way k s) F wr from hj)
      have HT := Lib.hid ht
      have hq := ht.blk HQ.out HFn.out
      have q2 := hq.at_ (i := 2) rfl
      have HWV := Lib.hid (HW0.out.turn ht)
      have j1 := hj.cvar.at_ (i := 0) rfl
      have j2 := hj.wvar.at_ (i := 0) rfl
      have j3 := hj.mvar.c1
      rw [← HN.out] at j1 j2
      by_cases hlt : k < nc
      · obtain ⟨x, hx⟩ : ∃ x, cs[k]? = some x := ⟨_, List.getElem?_eq_getElem (by rw [← HN.out]; exact hlt)⟩
        have j4 := hj.ints.at_ (i := k) (v := .int .i64 x) (by simp [hx])
        obtain ⟨vs, h1, h2, -⟩ := hj.row
        have hkv : k < vs.length := by rw [h2, ← HN.out]; exact hlt
        have j5 := h1.at_ (i := k) (v := vs[k]) (by simp [hkv])
        have j6 := h1.frozen k
        obtain ⟨m0, hm0⟩ : ∃ m0, m0 = (hitN cs xc way k s).2 := ⟨_, rfl⟩
        rw [← hm0] at j3
        have HM0 := Lib.hid hm0
        by_cases hxc : xc = x
        · have HH := Lib.hid (show hitN cs xc way (k + 1) s = ((hitN cs xc way k s).1.set k (some way), wrap64 ((hitN cs xc way k s).2 - 1)) by simp only [hitN]; rw [if_pos (by rw [hx, hxc])])
          have HN2 := Lib.hid (HJ.out.hit HWV.out (by rw [← HN.out]; exact hlt) (wrap_wide ((hitN cs xc way k s).2 - 1)))
          rw [← hm0] at HN2 HH
          subst hxc
          obtain ⟨vk, hvk⟩ : ∃ vk, vk = vs[k] := ⟨_, rfl⟩
          rw [← hvk] at j5
          have hne : rb ≠ mv := HJ.out.ne.2.2.2.1
          clear hj ht hq hx h1 h2 hkv hm0 hvk
          go_wp2_with fail
          exact ⟨⟨k + 1, by omega, by go_num, by rw [HH.out]; exact HN2.out.1, HT.out.trans HN2.out.2⟩, by simp [intOf]; omega⟩
        · have HH := Lib.hid (show hitN cs xc way (k + 1) s = hitN cs xc way k s by simp only [hitN]; rw [if_neg (by rw [hx]; exact fun e => hxc (Option.some.inj e).symm)])
          clear hj ht hq hx h1 h2 hkv hm0 j3 j5 j6
          go_wp2_with fail
          exact ⟨⟨k + 1, by omega, by go_num, by rw [HH.out]; exact HJ.out, HT.out⟩, by simp [intOf]; omega⟩
      · have hkn : k = nc := by omega
        subst hkn
        obtain ⟨m0, hm0⟩ : ∃ m0, m0 = (hitN cs xc way k s).2 := ⟨_, rfl⟩
        rw [← hm0] at j3 HF'
        obtain ⟨j3, -⟩ := j3
        clear hj ht hq hm0 j1 j2 q2
        by_cases hz : m0 = 0
        · have HF2 : Hid (r = (hitN cs xc way k s, true)) := by rw [HF'.out, decide_eq_true hz]; rfl
          subst hz
          go_wp2_with fail
          exact ⟨rfl, end_stop (P := fun s => ∃ F', Jf cs cv kb wv rb mv s F' wr ∧ Turn F F' w wr) HF2.out ⟨F, HJ.out, (Turn.of_below HB.out).trans HT.out⟩⟩
        · have HF2 : Hid (r = (hitN cs xc way k s, false)) := by rw [HF'.out, decide_eq_false hz]; rfl
          go_wp2_with fail
          go_end0
          exact end_go (P := fun s => ∃ F', Jf cs cv kb wv rb mv s F' wr ∧ Turn F F' w wr) HF2.out ⟨F, HJ.out, (Turn.of_below HB.out).trans HT.out⟩
  · have HF' : Hid (r = (s, false)) := by rw [HF.out, if_pos hk]; rfl
    clear HF
    go_enter Try.func97, Try.ntmps97
    go_wp2_with fail
    refine bodyPost_ret (results_none rfl _ _ _) rfl ?_
    exact end_go (P := fun s => ∃ F', Jf cs cv kb wv rb mv s F' _ ∧ Turn F F' w _) HF'.out ⟨F, HJ0.out, Turn.of_below HB.out⟩
end Go.Proofs.Ytjeabkcbaielhaa.Co
