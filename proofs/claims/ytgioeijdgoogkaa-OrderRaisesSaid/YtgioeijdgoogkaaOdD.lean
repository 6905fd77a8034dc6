/- Things among which one is sought; places; Check. -/
import Derived.Test.YtgioeijdgoogkaaOdC
namespace Go.Proofs.Ytgioeijdgoogkaa.Od
open Go.RowKit Go.Maps
/-- What a function handed in tells of a thing, wherever memory has grown. -/
def TellsT (g : Nat) (cb : Array Value) (f : It → Bool) (B : Nat) (w : World) : Prop :=
  ∀ (r : It) (W : World), Below B w W → Calls Try.prog g (#[itV r] ++ cb) W fun e w' => e = .returned (.bool (f r)) ∧ Below W.heap.size W w'
/-- The place of the first of which it holds; -1: of none. -/
def firI (f : It → Bool) (l : List It) : Int := match l.findIdx? f with
  | some k => (k : Int)
  | none => -1
theorem firI_none {f : It → Bool} {l : List It} (h : ∀ (j : Nat) (x : It), l[j]? = some x → f x = false) : firI f l = -1 := by
  unfold firI
  rw [List.findIdx?_eq_none_iff.2 fun x hx => by
    obtain ⟨j, hj⟩ := List.getElem?_of_mem hx
    exact h j x hj]
theorem firI_some {f : It → Bool} {l : List It} {k : Nat} {x : It} (hx : l[k]? = some x) (hf : f x = true) (h : ∀ (j : Nat) (x : It), j < k → l[j]? = some x → f x = false) : firI f l = (k : Int) := by
  unfold firI
  obtain ⟨hl, rfl⟩ := List.getElem?_eq_some_iff.1 hx
  rw [show l.findIdx? f = some k from List.findIdx?_eq_some_iff_getElem.2 ⟨hl, hf, fun j hj => by
    have := h j _ hj (List.getElem?_eq_getElem (by omega))
    simp [this]⟩]
theorem firI_any (f : It → Bool) (l : List It) : decide (0 ≤ firI f l) = l.any f := by
  unfold firI
  cases h : l.findIdx? f with
  | none =>
    rw [List.findIdx?_eq_none_iff] at h
    have : l.any f = false := by rw [List.any_eq_false]; intro x hx; simp [h x hx]
    rw [this]; rfl
  | some k =>
    obtain ⟨hl, h1, _⟩ := List.findIdx?_eq_some_iff_getElem.1 h
    have : l.any f = true := List.any_eq_true.2 ⟨_, List.getElem_mem hl, h1⟩
    rw [this]; simp
set_option maxHeartbeats 1000000 in
theorem index_t (g : Nat) (cb : Array Value) (f : It → Bool) (v : Value) (rs : List It) (w : World) (eg : ∀ args w, (callFunc g args).run Try.prog w = .ok (.enter g args) w) (hT : TellsT g cb f w.heap.size w) (hR : RdT w v rs) (hn : rs.length ≤ 9223372036854775807) :
    Calls Try.prog 33 #[v, .func (.func g) #[] cb] w fun e w' => e = .returned (.int .i64 (firI f rs)) ∧ Below w.heap.size w w' := by
  obtain ⟨p, c, rfl, hcell⟩ := hR
  have HC := Lib.hid hcell
  obtain ⟨n, hln⟩ : ∃ n, n = rs.length := ⟨_, rfl⟩
  rw [← hln] at hn ⊢
  have HN := Lib.hid hln
  have HT := Lib.hid hT
  obtain ⟨z, hz⟩ : ∃ z, z = firI f rs := ⟨_, rfl⟩
  rw [← hz]
  have HZ := Lib.hid hz
  clear hcell hln hT hz
  go_enter Try.func33, Try.ntmps33
  go_wp2_with fail
  go_loopw [8] (fun z wr => ∃ k : Nat, k ≤ n ∧ z = .int .i64 k ∧ Below w.heap.size w wr ∧ Asd (∀ (j : Nat) (x : It), j < k → rs[j]? = some x → f x = false)) (fun z _ => n - (intOf z).toNat)
  case atStart => exact ⟨0, Nat.zero_le _, rfl, Below.refl _ _, fun j x hj => absurd hj (Nat.not_lt_zero j)⟩
  case round =>
    obtain ⟨k, hk, rfl, hB, hA⟩ := hrel
    have HA := Lib.hid (show ∀ (j : Nat) (x : It), j < k → rs[j]? = some x → f x = false from hA)
    clear hA
    by_cases hlt : k < n
    · obtain ⟨x, hx⟩ : ∃ x, rs[k]? = some x := ⟨_, List.getElem?_eq_getElem (by rw [← HN.out]; exact hlt)⟩
      obtain ⟨b, o, rfl, hb1, hb2⟩ := HC.out k x hx
      obtain ⟨r0, r1, r2, r3, r4, r5⟩ := RdT.cells (w := wr) (fun i u hu => (hB.cell (p := ⟨b, o + k * 6 + i, none⟩) hb1).trans (hb2 i u hu))
      have HX := Lib.hid hx
      clear hb2 hx
      have hi0 : (0 : Int) ≤ (k : Int) := by omega
      have hi1 : (k : Int) < (n : Int) := by omega
      have hC := HT.out x wr hB
      cases hf : f x
      · rw [hf] at hC
        have HF := Lib.hid hf
        clear hf
        have HCC := Lib.hid hC
        clear hC
        go_wp2_with fail
        refine HCC.out.mono ?_
        rintro e w1 ⟨rfl, hb⟩
        have hB1 := hB.trans (hb.mono hB.size)
        clear hb hB
        go_wp2_with fail
        go_roundw
        case rel => exact ⟨k + 1, by omega, by go_num, hB1, fun j y hj hy => by
          rcases Nat.lt_or_ge j k with h | h
          · exact HA.out j y h hy
          · obtain rfl : j = k := by omega
            rw [HX.out] at hy; injection hy with hy; subst hy; exact HF.out⟩
        case measure => simp [intOf]; omega
      · rw [hf] at hC
        have HF := Lib.hid (show z = (k : Int) from HZ.out.trans (firI_some HX.out hf HA.out))
        clear hf
        have HCC := Lib.hid hC
        clear hC
        go_wp2_with fail
        refine HCC.out.mono ?_
        rintro e w1 ⟨rfl, hb⟩
        have hB1 := hB.trans (hb.mono hB.size)
        clear hb hB
        go_wp2_with fail
        go_ret
        exact ⟨by rw [HF.out]; rfl, hB1⟩
    · have HF := Lib.hid (show z = -1 from HZ.out.trans (firI_none fun j x hj => HA.out j x (by have h1 := (List.getElem?_eq_some_iff.1 hj).1; have h2 := HN.out; omega) hj))
      go_wp2_with fail
      go_ret
      exact ⟨by rw [HF.out]; rfl, hB⟩
theorem contains_t (g : Nat) (cb : Array Value) (f : It → Bool) (v : Value) (rs : List It) (w : World) (eg : ∀ args w, (callFunc g args).run Try.prog w = .ok (.enter g args) w) (hT : TellsT g cb f w.heap.size w) (hR : RdT w v rs) (hn : rs.length ≤ 9223372036854775807) :
    Calls Try.prog 22 #[v, .func (.func g) #[] cb] w fun e w' => e = .returned (.bool (rs.any f)) ∧ Below w.heap.size w w' := by
  have HI := Lib.hid (index_t g cb f v rs w eg hT hR hn)
  have HQ := Lib.hid (firI_any f rs)
  obtain ⟨z, hz⟩ : ∃ z, z = firI f rs := ⟨_, rfl⟩
  rw [← hz] at HI HQ
  clear hT hR eg hz
  go_enter Try.func22, Try.ntmps22
  go_wp2_with fail
  refine HI.out.mono ?_
  rintro e w1 ⟨rfl, hb⟩
  go_wp2_with fail
  go_ret
  exact ⟨ret_bool HQ.out, hb⟩
theorem tells_wrong (w : World) : TellsT 23 #[] (fun t => !okT t) w.heap.size w := fun r W _ => wrong_c r W
/-- Where each client stands. -/
def plO (l : List It) (c : Int) : Option Int := match (cl l).idxOf? c with
  | some k => some (k : Int)
  | none => none
/-- What places leaves: the clients' places if each stands there once; and how many clients there are. -/
def Pls (l : List It) (k : Nat) (f : Int → Option Int) (n : Nat) : Prop := n ≤ k ∧ (n = k ↔ (cl (l.take k)).Nodup) ∧ (∀ c, (f c).isSome = true ↔ c ∈ cl (l.take k)) ∧ ∀ (j : Nat) (x : It), (cl (l.take k)).Nodup → j < k → l[j]? = some x → f x.c = some (j : Int)
theorem cl_take {l : List It} {k : Nat} {x : It} (h : l[k]? = some x) : cl (l.take (k + 1)) = cl (l.take k) ++ [x.c] := by
  unfold cl; rw [List.take_add_one, h]; simp
theorem Pls.start (l : List It) : Pls l 0 (fun _ => none) 0 := ⟨Nat.le_refl _, by simp [cl], fun c => by simp [cl], fun j x _ hj => absurd hj (Nat.not_lt_zero j)⟩
theorem nodup_snoc {s : List Int} {c : Int} : (s ++ [c]).Nodup ↔ s.Nodup ∧ c ∉ s := by
  rw [List.nodup_append]
  constructor
  · rintro ⟨h1, _, h3⟩
    exact ⟨h1, fun hc => h3 c hc c (by simp) rfl⟩
  · rintro ⟨h1, h2⟩
    exact ⟨h1, by simp, fun a ha b hb e => by simp at hb; subst hb; subst e; exact h2 ha⟩
theorem Pls.next {l : List It} {k n : Nat} {f : Int → Option Int} {x : It} (h : Pls l k f n) (hx : l[k]? = some x) : Pls l (k + 1) (fun j => if j = x.c then some (k : Int) else f j) (if (f x.c).isSome then n else n + 1) := by
  obtain ⟨h1, h2, h3, h4⟩ := h
  have e := cl_take hx
  refine ⟨by split <;> omega, ?_, fun c => ?_, fun j y hn hj hy => ?_⟩
  · rw [e, nodup_snoc, ← h2]
    have := h3 x.c
    split
    · rename_i hs
      constructor
      · intro; omega
      · rintro ⟨_, h⟩; exact absurd (this.1 hs) h
    · rename_i hs
      constructor
      · intro h; exact ⟨by omega, fun hm => hs (this.2 hm)⟩
      · rintro ⟨h, _⟩; omega
  · rw [e, List.mem_append, List.mem_singleton]
    show (if c = x.c then some (k : Int) else f c).isSome = true ↔ _
    by_cases hc : c = x.c
    · rw [if_pos hc]; simp [hc]
    · rw [if_neg hc, h3 c]; simp [hc]
  · rw [e, nodup_snoc] at hn
    show (if y.c = x.c then some (k : Int) else f y.c) = _
    rcases Nat.lt_or_ge j k with hl | hl
    · have hne : y.c ≠ x.c := fun he => hn.2 (by
        rw [← he]
        exact List.mem_map.2 ⟨y, List.mem_of_getElem? (i := j) (by rw [List.getElem?_take_of_lt hl]; exact hy), rfl⟩)
      rw [if_neg hne]
      exact h4 j y hn.1 hl hy
    · obtain rfl : j = k := by omega
      rw [hx] at hy; injection hy with hy; subst hy
      rw [if_pos rfl]
set_option maxHeartbeats 2000000 in
set_option maxRecDepth 100000 in
theorem places_c (v0 : Value) (l : List It) (w : World) (hR : RdT w v0 l) (hn : l.length ≤ 128) (hs : ∀ (j : Nat) (t : It), l[j]? = some t → I64 t.c) :
    Calls Try.prog 21 #[v0] w fun e w' => ∃ b f n, e = .returned (.map (some b)) ∧ MapP w' b f n ∧ Pls l l.length f n ∧ w.heap.size ≤ b ∧ Below w.heap.size w w' := by
  obtain ⟨p, c, rfl, hcell⟩ := hR
  have HC := Lib.hid hcell
  obtain ⟨n, hln⟩ : ∃ n, n = l.length := ⟨_, rfl⟩
  rw [← hln] at hn ⊢
  have HN := Lib.hid hln
  have HS := Lib.hid hs
  have hB0 := (Below.refl w.heap.size w).alloc (Nat.le_refl _) (.map #[] 0)
  have hM0 := MapP.made w
  have hmm := @run_makeMap Try.prog
  clear hcell hln hs
  go_enter Try.func21, Try.ntmps21
  go_upto_region 3 with fail
  go_loopw [9] (fun z wr => ∃ (k : Nat) (f : Int → Option Int) (m : Nat), k ≤ n ∧ z = .int .i64 k ∧ Below w.heap.size w wr ∧ MapP wr w.heap.size f m ∧ Asd (Pls l k f m)) (fun z _ => n - (intOf z).toNat)
  case atStart => exact ⟨0, _, 0, Nat.zero_le _, rfl, hB0, hM0, Pls.start l⟩
  case round =>
    clear hB0 hM0
    obtain ⟨k, f, m, hk, rfl, hB, hM, hA⟩ := hrel
    have HA := Lib.hid (show Pls l k f m from hA)
    clear hA
    by_cases hlt : k < n
    · obtain ⟨x, hx⟩ : ∃ x, l[k]? = some x := ⟨_, List.getElem?_eq_getElem (by rw [← HN.out]; exact hlt)⟩
      obtain ⟨b, o, rfl, hb1, hb2⟩ := HC.out k x hx
      obtain ⟨y0, y1, y2, y3, y4, y5⟩ := RdT.cells (w := wr) (fun i u hu => (hB.cell (p := ⟨b, o + k * 6 + i, none⟩) hb1).trans (hb2 i u hu))
      have hi0 : (0 : Int) ≤ (k : Int) := by omega
      have hi1 : (k : Int) < (n : Int) := by omega
      have hsx := HS.out k x hx
      have hM2 := hM.alloc (ItB x)
      obtain ⟨w9, hput, hM9, hgr⟩ := hM2.put hsx (by have := HA.out.1; omega) (k : Int)
      have HM9 := Lib.hid hM9
      have HP9 := Lib.hid (HA.out.next hx)
      have HB9 := Lib.hid (below_only (hB.trans (((Below.refl wr.heap.size wr).alloc (Nat.le_refl _) (ItB x)).mono hB.size)) hgr (by have := hB.size; simp; omega) (fun g h => by cases h; exact Nat.le_refl _))
      clear hb1 hb2 hx hsx hM hM2 hM9 hgr hB
      go_wp2_with fail
      go_roundw
      case rel => exact ⟨k + 1, _, _, by omega, by go_num, HB9.out, HM9.out, HP9.out⟩
      case measure => simp [intOf]; omega
    · obtain rfl : k = n := by omega
      go_wp2_with fail
      go_ret
      exact ⟨_, _, _, rfl, hM, HA.out, Nat.le_refl _, hB⟩
theorem Pls.done {l : List It} {f : Int → Option Int} {n : Nat} (h : Pls l l.length f n) : n ≤ l.length ∧ (n = l.length ↔ Dis l) := by
  obtain ⟨h1, h2, _⟩ := h
  rw [List.take_length] at h2
  exact ⟨h1, h2⟩
theorem chk_many {l : List It} (h : 128 < l.length) : ChkR l 2 := .inl ⟨h, rfl⟩
set_option maxHeartbeats 2000000 in
set_option maxRecDepth 100000 in
theorem Check_c (v0 : Value) (l : List It) (w : World) (hR : RdT w v0 l) (hs : ∀ (j : Nat) (t : It), l[j]? = some t → I64 t.c) :
    Calls Try.prog 9 #[v0] w fun e w' => ∃ z, e = .returned (.int .i64 z) ∧ ChkR l z ∧ Below w.heap.size w w' := by
  have hR0 := hR
  obtain ⟨p, c, rfl, hcell⟩ := hR
  obtain ⟨n, hln⟩ : ∃ n, n = l.length := ⟨_, rfl⟩
  rw [← hln] at hR0 ⊢
  have HN := Lib.hid hln
  by_cases h128 : 128 < n
  · have HZ := Lib.hid (chk_many (l := l) (by omega))
    have h16' : (128 : Int) < (n : Int) := by omega
    clear hcell hln hs hR0 h128
    go_enter Try.func9, Try.ntmps9
    go_wp2_with fail
    go_ret
    exact ⟨2, rfl, HZ.out, Below.refl _ _⟩
  · have h16' : ¬ (128 : Int) < (n : Int) := by omega
    have H16 := Lib.hid (show ¬ 128 < l.length by omega)
    have HP := Lib.hid (places_c _ l w hR0 (by omega) hs)
    have HI := Lib.hid (fun (W : World) (h : Below w.heap.size w W) => contains_t 23 #[] (fun t => !okT t) _ l W (fun args w => by kernel_rfl) (tells_wrong W) (hR0.below h) (by omega))
    have HAN : Hid ((l.any fun t => !okT t) = false ↔ ∀ t ∈ l, okT t = true) := by
      rw [List.any_eq_false]
      exact ⟨fun h t ht => by simpa using h t ht, fun h t ht => by simp [h t ht]⟩
    obtain ⟨an, han⟩ : ∃ a, a = (l.any fun t => !okT t) := ⟨_, rfl⟩
    rw [← han] at HI HAN
    clear hcell hln hs hR0 h128 han
    go_enter Try.func9, Try.ntmps9
    go_wp2_with fail
    refine HP.out.mono ?_
    rintro e w1 ⟨b, f, m, rfl, hM, hP, _, hb⟩
    have hlen := fun ty => hM.len ty
    have HQ := Lib.hid hP.done
    have HB := Lib.hid hb
    have HD : Hid (¬ m < n → (ChkR l (if an = true then 1 else 0))) := fun hm => by
      have hd : Dis l := HQ.out.2.1 (by have := HQ.out.1; have := HN.out; omega)
      cases an with
      | true => exact .inr (.inr ⟨H16.out, fun h => (by have := HAN.out.2 h.2; cases this), rfl⟩)
      | false => exact .inr (.inl ⟨H16.out, ⟨hd, HAN.out.1 rfl⟩, rfl⟩)
    clear hP hb hM
    by_cases hm : m < n
    · have hm' : (m : Int) < (n : Int) := by omega
      have HZ : Hid (ChkR l 1) := .inr (.inr ⟨H16.out, fun h => by have := HQ.out.2.2 h.1; have := HN.out; omega, rfl⟩)
      clear hm
      go_wp2_with fail
      go_ret
      exact ⟨1, rfl, HZ.out, HB.out⟩
    · have hm' : ¬ (m : Int) < (n : Int) := by omega
      have HD := Lib.hid (HD.out hm)
      clear hm
      go_wp2_with fail
      refine (HI.out _ HB.out).mono ?_
      rintro e w2 ⟨rfl, hb⟩
      have HB2 := Lib.hid (HB.out.trans (hb.mono HB.out.size))
      clear hb
      cases an
      · have HZ := Lib.hid (show ChkR l 0 from HD.out)
        go_wp2_with fail
        go_ret
        exact ⟨0, rfl, HZ.out, HB2.out⟩
      · have HZ := Lib.hid (show ChkR l 1 from HD.out)
        go_wp2_with fail
        go_ret
        exact ⟨1, rfl, HZ.out, HB2.out⟩
end Go.Proofs.Ytgioeijdgoogkaa.Od
